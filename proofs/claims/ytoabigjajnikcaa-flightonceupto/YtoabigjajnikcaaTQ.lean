import Derived.Test.YtoabigjajnikcaaTO
namespace Go.Proofs.Ytoabigjajnikcaa
open Go.RowKit Go.Maps
attribute [local go_sem] Oper.semAt_some
set_option linter.unusedVariables false
set_option linter.unusedSimpArgs false
set_option maxRecDepth 100000

section
variable {w : World} {G : Nat → Prop} {p : Nat} {v : Value} {V : Int → Value} {S : St}
theorem grown_own {w w' : World} {v : Value} (h : w.grownBy w' v.ownBlock) : KeptIn (fun g => v.ownBlock = some g) w w' :=
  ⟨h.os, h.tape, h.output, h.size, fun k hk hn => h.block k hk (fun e => hn e.symm)⟩
set_option maxHeartbeats 1000000 in
theorem radd_full (h : RR w G p v V S) (hfull : S.L.length = S.most) (c0 c1 c2 c3 c4 c5 : Value) : Calls Try.prog 38 #[.pointer (some ⟨p, 0, none⟩), .agg #[c0, c1, c2, c3, c4, c5]] w fun r w' => r = .returned (.tuple #[.int .i64 0, .int .i64 131]) ∧ Below w.heap.size w w' := by
  have hR := h.later (below1 w (.cells #[c0, c1, c2, c3, c4, c5] 44))
  obtain ⟨ao, cap, hv⟩ := owns_form9 h.row
  obtain ⟨n, hn⟩ : ∃ n, S.L.length = n := ⟨_, rfl⟩
  have k2 : (w.alloc (.cells #[c0, c1, c2, c3, c4, c5] 44)).cell? ⟨p, 2, none⟩ = some (.slice ao n cap) := (hR.c 2).trans (by rw [hv, hn]; rfl)
  have k0 : (w.alloc (.cells #[c0, c1, c2, c3, c4, c5] 44)).cell? ⟨p, 0, none⟩ = some (.int .i64 (n : Int)) := (hR.c 0).trans (by rw [← hfull, hn]; rfl)
  have HBl : Hid _ := below1 w (.cells #[c0, c1, c2, c3, c4, c5] 44)
  clear h hR hv hfull hn
  go_enter Try.func38, Try.ntmps38
  go_wp2
  generalize w.alloc (.cells #[c0, c1, c2, c3, c4, c5] 44) = W at *
  go_quiet (fail)
  go_wp2
  go_ret2
  exact ⟨rfl, HBl.out.trans ((below_drewN W _).mono HBl.out.size)⟩
theorem RR.putNew (h : RR w G p v V S) {W3 w4 w5 : World} {q : Rq} {val v' : Value} {o : Obj} (hl : S.L.length < S.most) (hbg : S.last < 4611686018427387904) (hkw : KeptIn (fun g => g = p) w W3) (hp3 : W3.heap[p]? = some (.cells #[.int .i64 S.most, .int .i64 ((S.last : Int) + 1), v] TRt (0, 0))) (hB4 : Below W3.heap.size W3 w4) (hg5 : (w4.alloc o).grownBy w5 v.ownBlock)
    (ho5 : w5.ownsRow 0 TEn 9 v' (S.L.length + 1) ((S.L.flatMap fun e => vcl (V e.id)) ++ vcl val)) (hv' : v'.ownBlock = v.ownBlock ∨ v'.ownBlock = some (w4.heap.size + 1)) (hval : PV w4 (fun g => W3.heap.size ≤ g ∧ g < w4.heap.size) val ⟨(S.last : Int) + 1, q, false, []⟩) :
    RAct w (w5.setCell ⟨p, 2, none⟩ v') G (fun g => G g ∨ (W3.heap.size ≤ g ∧ g < w4.heap.size)) p v v' (updV V ((S.last : Int) + 1) val) (addS S q) := by
  have hs3 := hkw.size
  have hs4 := hB4.size
  have hs5 := hg5.size
  rw [size1] at hs5
  have hplt := h.ltp
  have hK5 : KeptIn (fun g => g = p ∨ v.ownBlock = some g) w w5 := (hkw.mono (T := fun g => g = p ∨ v.ownBlock = some g) (fun g _ e => .inl e)).trans ((KeptIn.ofBelow (S := fun g => g = p ∨ v.ownBlock = some g) (hB4.trans ((below1 w4 o).mono hs4))).trans ((grown_own hg5).mono (T := fun g => g = p ∨ v.ownBlock = some g) (fun g _ e => .inr e)) (fun _ _ hn => hn)) (fun _ _ hn => hn)
  have hp5 : w5.heap[p]? = some (.cells #[.int .i64 S.most, .int .i64 ((S.last : Int) + 1), v] TRt (0, 0)) := by
    rw [hg5.block p (by rw [size1]; omega) (fun e => h.ne e.symm), (below1 w4 o).block p (by omega), hB4.block p (by omega)]; exact hp3
  have hk6 := keptIn_set w5 p 2 v'
  have hK6 : KeptIn (fun g => g = p ∨ v.ownBlock = some g) w (w5.setCell ⟨p, 2, none⟩ v') := hK5.trans (hk6.mono (T := fun g => g = p ∨ v.ownBlock = some g) (fun g _ e => .inl e)) (fun _ _ hn => hn)
  have hvp : v'.ownBlock ≠ some p := fun e => by
    rcases hv' with e2 | e2
    · exact h.ne (e2 ▸ e)
    · rw [e] at e2; simp at e2; omega
  have hid : ∀ e ∈ S.L, updV V ((S.last : Int) + 1) val e.id = V e.id := fun e he => updV_other (by have := h.ok.top e.id (ids_mem he); omega)
  refine ⟨⟨fun g hg => ?_, fun hg => ?_, fun g hg hG => ?_, ?_, ?_, ?_, addS_ok h.ok q hl hbg⟩, hK6, fun g hg => ?_⟩
  · have : w5.heap.size ≤ (w5.setCell ⟨p, 2, none⟩ v').heap.size := hk6.size
    rcases hg with hg | hg
    · have := h.lt g hg; omega
    · omega
  · rcases hg with hg | hg
    · exact h.np hg
    · omega
  · rcases hv' with e2 | e2
    · rw [e2] at hg
      rcases hG with hG | hG
      · exact h.nv g hg hG
      · have := (row_lt h.row g hg).1; omega
    · rw [e2] at hg; simp at hg
      rcases hG with hG | hG
      · have := h.lt g hG; omega
      · omega
  · rw [put_box hp5 2 v' rfl]; simp [addS]
  · have hr := row_same ho5 (w' := w5.setCell ⟨p, 2, none⟩ v') (fun g hg => Below.heap_setCell _ _ _ _ (fun e => hvp ((show g = p from e) ▸ hg)))
    have e1 : (addS S q).L.flatMap (fun e => vcl (updV V ((S.last : Int) + 1) val e.id)) = (S.L.flatMap fun e => vcl (V e.id)) ++ vcl val := by
      simp only [addS, List.flatMap_append, List.flatMap_cons, List.flatMap_nil, List.append_nil, updV_same]
      congr 1
      rw [List.flatMap_def, List.flatMap_def]
      congr 1
      exact List.map_congr_left fun e he => by rw [hid e he]
    rw [e1]
    have e2 : (addS S q).L.length = S.L.length + 1 := by simp [addS]
    rw [e2]; exact hr
  · intro e he
    simp only [addS] at he
    rcases List.mem_append.1 he with he | he
    · rw [hid e he]
      exact ((h.pv e he).keep hK6 h.lt (fun g hg hx => hx.elim (fun e => h.np (e ▸ hg)) (fun e => h.nv g e hg))).mono (fun g hg => .inl hg)
    · simp only [List.mem_singleton] at he
      subst he
      rw [updV_same]
      have hK46 : KeptIn (fun g => g = p ∨ v.ownBlock = some g) w4 (w5.setCell ⟨p, 2, none⟩ v') := ((KeptIn.ofBelow (S := fun g => g = p ∨ v.ownBlock = some g) (below1 w4 o)).trans ((grown_own hg5).mono (T := fun g => g = p ∨ v.ownBlock = some g) (fun g _ e => .inr e)) (fun _ _ hn => hn)).trans (hk6.mono (T := fun g => g = p ∨ v.ownBlock = some g) (fun g _ e => .inl e)) (fun _ _ hn => hn)
      exact (hval.keep hK46 (fun g hg => hg.2) (fun g hg hx => hx.elim (fun e => by omega) (fun e => by have := (row_lt h.row g e).1; omega))).mono (fun g hg => .inr hg)
  · rcases hg with e | e | e
    · exact .inl (.inl e)
    · rcases hv' with e2 | e2
      · exact .inl (.inr (.inl (e2 ▸ e)))
      · rw [e2] at e; simp at e; right; omega
    · rcases e with e | e
      · exact .inl (.inr (.inr e))
      · right; omega
set_option maxHeartbeats 8000000 in
theorem radd_ok (h : RR w G p v V S) (hl : S.L.length < S.most) (hbg : S.last < 4611686018427387904) (q : Rq) (da : Option Addr) (dc : Nat) (hq : BRow w da dc q.data) : Calls Try.prog 38 #[.pointer (some ⟨p, 0, none⟩), .agg (rcl q da dc).toArray] w fun r w' => r = .returned (.tuple #[.int .i64 ((S.last : Int) + 1), .int .i64 0]) ∧ ∃ G' v' V', RAct w w' G G' p v v' V' (addS S q) := by
  obtain ⟨n1, hn1⟩ : ∃ n, q.data.length = n := ⟨_, rfl⟩
  have HN1 : Hid _ := hn1
  simp only [rcl, hn1]
  clear hn1
  obtain ⟨i0, hi, hz0, hz1, hz2⟩ := info_parts infoE
  have hR := h.later (below1 w (.cells #[.int .u16 q.fl, .int .u16 q.ty, .int .u64 q.ck, .int .u64 q.off, .int .u64 q.len, .slice da n1 dc] 44))
  have hlen : S.L.length ≤ 64 := Nat.le_trans h.ok.len h.ok.m2
  have H : Hid _ := h
  have HQ : Hid _ := hq
  have HBx : Hid _ := mkb1 w #[.int .u16 q.fl, .int .u16 q.ty, .int .u64 q.ck, .int .u64 q.off, .int .u64 q.len, .slice da n1 dc] 44
  obtain ⟨la, hla⟩ : ∃ la, S.last = la := ⟨_, rfl⟩
  obtain ⟨n, hn⟩ : ∃ n, S.L.length = n := ⟨_, rfl⟩
  obtain ⟨mo, hmo⟩ : ∃ m, S.most = m := ⟨_, rfl⟩
  have HLa : Hid _ := hla
  have HN : Hid _ := hn
  have Hl : Hid _ := hl
  rw [hla] at hbg ⊢
  rw [hn] at hlen
  rw [hn, hmo] at hl
  obtain ⟨vo, vc, hv⟩ := owns_form9 h.row
  rw [hn] at hv
  have k2 : (w.alloc (.cells #[.int .u16 q.fl, .int .u16 q.ty, .int .u64 q.ck, .int .u64 q.off, .int .u64 q.len, .slice da n1 dc] 44)).cell? ⟨p, 2, none⟩ = some (.slice vo n vc) := (hR.c 2).trans (by rw [hv]; rfl)
  have k0 : (w.alloc (.cells #[.int .u16 q.fl, .int .u16 q.ty, .int .u64 q.ck, .int .u64 q.off, .int .u64 q.len, .slice da n1 dc] 44)).cell? ⟨p, 0, none⟩ = some (.int .i64 (mo : Int)) := (hR.c 0).trans (by rw [hmo]; rfl)
  have hd : decide ((mo : Int) ≤ (n : Int)) = false := by simp; omega
  have hd2 : ¬ ((mo : Int) ≤ (n : Int)) := by omega
  have hwr : IntKind.i64.wrap ((la : Int) + 1) = (la : Int) + 1 := by rw [IntKind.wrap_i64]; omega
  subst hv
  clear h hq hR hla hn hmo
  go_enter Try.func38, Try.ntmps38
  go_wp2
  generalize w.alloc (.cells #[.int .u16 q.fl, .int .u16 q.ty, .int .u64 q.ck, .int .u64 q.off, .int .u64 q.len, .slice da n1 dc] 44) = W at *
  go_quiet (fail)
  have HB : Hid _ := HBx.out.later (below_drewN W nq)
  clear HBx k0 k2
  generalize W.drewN nq = w2 at *
  have hR2 := H.out.later HB.out.bel
  have c1 : w2.cell? ⟨p, 1, none⟩ = some (.int .i64 (la : Int)) := by rw [← HLa.out]; exact hR2.c 1
  have f1 := hR2.fz 1
  clear hR2
  go_wp2_with fail
  have hR2 := H.out.later HB.out.bel
  have hq3 := put_box hR2.blk 1 (.int .i64 ((la : Int) + 1)) (cs' := #[.int .i64 S.most, .int .i64 ((la : Int) + 1), .slice vo n vc]) rfl
  have hk3 := keptIn_set w2 p 1 (.int .i64 ((la : Int) + 1))
  have hpw : p < w.heap.size := H.out.ltp
  have hbx3 : (w2.setCell ⟨p, 1, none⟩ (.int .i64 ((la : Int) + 1))).heap[w.heap.size]? = _ := (hk3.block w.heap.size (block_lt HB.out.a) (by omega)).trans HB.out.a
  have hrow3 : (w2.setCell ⟨p, 1, none⟩ (.int .i64 ((la : Int) + 1))).ownsRow 0 TEn 9 (.slice vo n vc) n (S.L.flatMap fun e => vcl (V e.id)) := by
    have := row_same hR2.row (w' := w2.setCell ⟨p, 1, none⟩ (.int .i64 ((la : Int) + 1))) (fun g hg => hk3.block g (row_lt hR2.row g hg).1 (fun e => hR2.ne (e ▸ hg)))
    rwa [HN.out] at this
  have hsz3 : w2.heap.size ≤ (w2.setCell ⟨p, 1, none⟩ (.int .i64 ((la : Int) + 1))).heap.size := hk3.size
  generalize w2.setCell ⟨p, 1, none⟩ (.int .i64 ((la : Int) + 1)) = W3 at *
  have hkw : KeptIn (fun g => g = p) w W3 := (KeptIn.ofBelow (S := fun g => g = p) HB.out.bel).trans hk3 (fun _ _ hn => hn)
  have HQ3 : Hid (BRow W3.drew da dc q.data) := by
    have hr : FRow w (fun g => g < w.heap.size ∧ g ≠ p) da dc q.data := ⟨HQ.out, fun hl a ha => ⟨(HQ.out.off hl a ha).1, fun e => by
      obtain ⟨b', off, e2, hc⟩ := HQ.out.at_ hl
      rw [ha] at e2
      simp only [Option.some.injEq] at e2
      subst e2
      have h0 := hc 0 (List.length_pos_iff.2 hl)
      simp only at e
      rw [e, blk_at H.out.blk] at h0
      rcases off with _ | _ | _ | m
      · simp [bv] at h0
      · simp [bv] at h0
      · simp [bv] at h0
      · simp at h0⟩⟩
    exact (hr.keep hkw (fun g hg => hg.1) (fun g hg => hg.2)).row.drewN 1
  have c1' : W3.cell? ⟨p, 1, none⟩ = some (.int .i64 ((la : Int) + 1)) := (blk_at hq3 1).trans rfl
  have c2' : W3.cell? ⟨p, 2, none⟩ = some (.slice vo n vc) := (blk_at hq3 2).trans rfl
  have q0 : W3.cell? ⟨w.heap.size, 0, none⟩ = some (.int .u16 q.fl) := (blk_at hbx3 0).trans rfl
  have q1 : W3.cell? ⟨w.heap.size, 1, none⟩ = some (.int .u16 q.ty) := (blk_at hbx3 1).trans rfl
  have q2 : W3.cell? ⟨w.heap.size, 2, none⟩ = some (.int .u64 q.ck) := (blk_at hbx3 2).trans rfl
  have q3 : W3.cell? ⟨w.heap.size, 3, none⟩ = some (.int .u64 q.off) := (blk_at hbx3 3).trans rfl
  have q4 : W3.cell? ⟨w.heap.size, 4, none⟩ = some (.int .u64 q.len) := (blk_at hbx3 4).trans rfl
  have q5 : W3.cell? ⟨w.heap.size, 5, none⟩ = some (.slice da n1 dc) := (blk_at hbx3 5).trans rfl
  have HC : Hid (Calls Try.prog 18 #[.agg #[.int .u16 q.fl, .int .u16 q.ty, .int .u64 q.ck, .int .u64 q.off, .int .u64 q.len, .slice da n1 dc]] W3.drew fun r w4 => ∃ a1 cc, r = .returned (.agg #[.int .u16 q.fl, .int .u16 q.ty, .int .u64 q.ck, .int .u64 q.off, .int .u64 q.len, .slice a1 n1 cc]) ∧ (∀ o, (w4.alloc o).cell? ⟨p, 1, none⟩ = some (.int .i64 ((la : Int) + 1))) ∧ (∀ o, (w4.alloc o).cell? ⟨p, 2, none⟩ = some (.slice vo n vc)) ∧ w4.cell? ⟨p, 1, none⟩ = some (.int .i64 ((la : Int) + 1)) ∧ w4.cell? ⟨p, 2, none⟩ = some (.slice vo n vc) ∧ Hid (w4.ownsRow W3.heap.size 5 1 (.slice a1 n1 cc) n1 (q.data.map bv) ∧ Below W3.heap.size W3 w4 ∧ w4.ownsRow 0 TEn 9 (.slice vo n vc) n (S.L.flatMap fun e => vcl (V e.id)))) := by
    refine (request_any q da dc n1 HQ3.out HN1.out).mono ?_
    rintro r w4 ⟨a1, cc, rfl, ho, hbl⟩
    have hbl' : Below W3.heap.size W3.drew w4 := hbl
    have hB4 : Below W3.heap.size W3 w4 := ⟨hbl'.os, hbl'.tape, hbl'.output, hbl'.size, hbl'.block⟩
    have hb4 := (hB4.block p (block_lt hq3)).trans hq3
    have hb5 : ∀ o, (w4.alloc o).heap[p]? = _ := fun o => ((below1 w4 o).block p (block_lt hb4)).trans hb4
    exact ⟨a1, cc, rfl, fun o => (blk_at (hb5 o) 1).trans rfl, fun o => (blk_at (hb5 o) 2).trans rfl, (blk_at hb4 1).trans rfl, (blk_at hb4 2).trans rfl, ho, hB4, row_same hrow3 (fun g hg => hB4.block g (row_lt hrow3 g hg).1)⟩
  have HQp : Hid _ := hq3
  have HKw : Hid _ := hkw
  have HR2 : Hid _ := hR2
  have HK3 : Hid _ := hk3
  have HSz : Hid (w.heap.size ≤ W3.heap.size) := by have := HB.out.bel.size; show _ ≤ _; omega
  have hne2 : ¬ p = w.heap.size := by omega
  clear hR2 hq3 hk3 hbx3 hrow3 HQ3 c1 f1 hwr HB hkw hd hd2
  have HP5 : Hid (∀ w4 o w5, Below W3.heap.size W3 w4 → (w4.alloc o).grownBy w5 (Value.slice vo n vc).ownBlock → w5.heap[p]? = some (.cells #[.int .i64 S.most, .int .i64 ((la : Int) + 1), .slice vo n vc] TRt (0, 0))) := fun w4 o w5 hB4 hg5 => by
    have h3 := block_lt HQp.out
    have h4 := hB4.size
    rw [hg5.block p (by rw [size1]; omega) (fun e => H.out.ne e.symm), (below1 w4 o).block p (by omega), hB4.block p (by omega)]; exact HQp.out
  go_region_law (first | (go_simp; go_at_call 18; refine Calls.mono HC.out ?_; rintro r w4 ⟨a1, cc, rfl, m1, m2, m3, m4, HW4⟩; dsimp only) | (refine step_append_lies _ (by rfl) _ _ 61 (by rfl) 0 TEn i0 (.agg zC) 9 96 Try.underlying61 hi hz0 hz1 hz2 rfl (by decide) (.slice vo n vc) n _ (by rfl) (HW4.out.2.2.alloc _) ⟨w4.heap.size, 0, none⟩ 1 1 [.int .i64 ((la : Int) + 1), .int .u16 q.fl, .int .u16 q.ty, .int .u64 q.ck, .int .u64 q.off, .int .u64 q.len, .slice a1 n1 cc, .bool false, .slice none 0 0] (by rfl) rfl (World.news_of_block (heap_alloc_new w4 _)) (by simp [Value.oneCell']) (by decide) (by unfold maxLen; omega) (by omega) (Nat.zero_le _) _ rfl ?_; intro g2 cp w5 ho5 hg5 hg6 hg7; have hp5 := HP5.out w4 _ w5 HW4.out.2.1 hg5; have z2 : w5.cell? ⟨p, 2, none⟩ = some (.slice vo n vc) := (blk_at hp5 2).trans rfl; have z1 : w5.cell? ⟨p, 1, none⟩ = some (.int .i64 ((la : Int) + 1)) := (blk_at hp5 1).trans rfl; have zf : w5.frozen? ⟨p, 2, none⟩ = false := blk_free hp5 2; have HO5 : Hid _ := ho5; have HG5 : Hid _ := hg5; have HG6 : Hid _ := hg6; clear ho5 hg5 hg6 hp5))
  all_goals go_wp2
  all_goals go_ret2
  all_goals refine ⟨rfl, _, _, _, H.out.putNew (q := q) (val := .agg #[.int .i64 ((la : Int) + 1), .int .u16 q.fl, .int .u16 q.ty, .int .u64 q.ck, .int .u64 q.off, .int .u64 q.len, .slice a1 n1 cc, .bool false, .slice none 0 0]) Hl.out (by rw [HLa.out]; exact hbg) HKw.out (by rw [HLa.out]; exact HQp.out) HW4.out.2.1 HG5.out (by rw [HN.out]; exact HO5.out) ?_ ?_⟩
  all_goals first
    | (rcases HG6.out with e | e
       · exact .inl e.symm
       · refine .inr ?_
         rw [size1] at e
         rw [← e]; rfl)
    | (rw [HLa.out]
       have ho := HW4.out.1
       rw [← HN1.out] at ho
       obtain ⟨a9, c9, e9, hr⟩ := FRow.own (F := fun g => W3.heap.size ≤ g ∧ g < w4.heap.size) ho HQ.out.lt HQ.out.len (fun g hg => by have := owns_lt ho g hg; exact ⟨this.2, this.1⟩)
       simp only [Value.slice.injEq] at e9
       obtain ⟨rfl, _, rfl⟩ := e9
       exact ⟨a1, cc, none, 0, by simp only [ecl, HN1.out, List.length_nil], hr, FRow.nil _ _⟩)
end
end Go.Proofs.Ytoabigjajnikcaa
