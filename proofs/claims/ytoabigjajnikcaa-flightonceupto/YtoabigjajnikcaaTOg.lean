import Derived.Test.YtoabigjajnikcaaTOi
import Derived.Deep.RegionHeld3
import Derived.Deep.CutBlock
import Derived.Deep.CutRange
namespace Go.Proofs.Ytoabigjajnikcaa.O
open Go.RowKit Go.Maps Go.Proofs.Ytoabigjajnikcaa
attribute [local go_sem] Oper.semAt_some
set_option linter.unusedVariables false
set_option linter.unusedSimpArgs false
set_option maxRecDepth 100000

set_option maxHeartbeats 16000000 in
theorem once_any (w : World) (m : Nat) (hm1 : 1 ≤ m) (hm2 : m ≤ 64) (ao : Option Addr) (n cap : Nat) (os : List OpF) (HN : Hid (os.length = n)) (hs : Scr w w.heap.size ao os) : Calls Try.prog 7 #[.int .i64 m, .slice ao n cap] w fun r w' => r = .returned (.bool true) ∧ Below w.heap.size w w' := by
  have HS : Hid _ := hs
  have hnl : n ≤ 1099511627776 := by rw [← HN.out]; exact hs.len
  clear hs
  obtain ⟨ii, hi0, hi1, hi2, hi3⟩ := info_parts infoI
  obtain ⟨iq, hq0, hq1, hq2, hq3⟩ := info_parts infoQ
  obtain ⟨ib, hb0, hb1, hb2, hb3⟩ := info_parts infoB
  obtain ⟨iy, hy0, hy1, hy2, hy3⟩ := info_parts infoY
  go_enter Try.func7, Try.ntmps7
  go_wp2_with fail
  refine Calls.mono (heads_any w) ?_
  rintro r w1 ⟨rfl, hb⟩
  have HB : Hid _ := hb
  clear hb
  go_wp2_with fail
  refine Calls.mono (new_any w1 m hm1 hm2) ?_
  rintro r w2 ⟨b, rfl, bm, hrt, hb2, hbl, hbml⟩
  have HT2 : Hid _ := hrt
  have HB2 : Hid (Below w.heap.size w w2) := HB.out.trans (hb2.mono HB.out.size)
  have HLb : Hid (w.heap.size ≤ b ∧ w.heap.size ≤ bm) := ⟨Nat.le_trans HB.out.size hbl, Nat.le_trans HB.out.size hbml⟩
  clear hrt hb2 hbl hbml HB
  go_wp2
  go_loopw [7, 8, 9, 10, 11, 12] (fun vi vq vr va gi i wr => ∃ k : Nat, k ≤ n ∧ i = .int .i64 (k : Int) ∧ ∃ (F : Nat → Prop) (V : Int → Value) (S : St) (D : Nat → Prop) (Is : List Int) (Qs : List Qx) (Rs : List Bool) (As : List Ax), gi = .int .i64 (S.last : Int) ∧ Hid (On wr F b bm V S vi vq vr va D Is Qs Rs As ∧ Same S Is Qs Rs As ∧ S.most = m ∧ S.last ≤ k ∧ LoV w.heap.size vi vq vr va ∧ Below w.heap.size w wr)) (fun _ _ _ _ _ i _ => n - (intOf i).toNat)
  case atStart =>
    refine ⟨0, Nat.zero_le _, rfl, _, _, newS m, fun _ => False, [], [], [], [], rfl, ⟨HT2.out, ⟨rfl, .inl ⟨rfl, rfl⟩⟩, ⟨rfl, .inl ⟨rfl, rfl⟩⟩, ⟨rfl, .inl ⟨rfl, rfl⟩⟩, ⟨rfl, .inl ⟨rfl, rfl⟩⟩, by simp, by simp, by simp, fun g _ => by simp [Value.ownBlock]⟩, ⟨rfl, rfl, rfl, rfl⟩, rfl, Nat.le_refl _, fun g hg => by simp [Value.ownBlock] at hg, HB2.out⟩
  case round =>
    obtain ⟨k, hk, rfl, F, V, S, D, Is, Qs, Rs, As, rfl, HI⟩ := hrel
    by_cases hlt : k < n
    · obtain ⟨o, hko⟩ : ∃ o, os[k]? = some o := ⟨_, List.getElem?_eq_getElem (by rw [HN.out]; exact hlt)⟩
      obtain ⟨g, off, da, dc, aa, ac, rfl, hg, hr0, hop⟩ := HS.out.at_ k o hko
      have hr := range_same hr0 (HI.out.2.2.2.2.2.block g hg)
      clear hr0
      obtain ⟨n1, hn1⟩ : ∃ n, o.rq.data.length = n := ⟨_, rfl⟩
      obtain ⟨n2, hn2⟩ : ∃ n, o.an.length = n := ⟨_, rfl⟩
      have HN1 : Hid _ := hn1
      have HN2 : Hid _ := hn2
      have HOp : Hid _ := hop
      rw [hn1, hn2] at hr
      have HR : Hid _ := hr
      obtain ⟨nL, hnL⟩ : ∃ n, S.L.length = n := ⟨_, rfl⟩
      obtain ⟨ai, ci, aq, cq, ar, cr, ax, cx, rfl, rfl, rfl, rfl⟩ := HI.out.1.forms HI.out.2.1 hnL
      have HLn : Hid _ := HI.out.2.1.lens hnL
      have HNL : Hid _ := hnL
      have hl64 : nL ≤ 64 := by have := HI.out.1.t.ok.len; have := HI.out.1.t.ok.m2; omega
      have hkz : (k : Int) < (n : Int) := by omega
      have hkn : ¬ (k : Int) < 0 := by omega
      have h1c : (opl o n1 n2 da dc aa ac).all (·.oneCell') = true := by simp [opl, Value.oneCell']
      have H1 : Hid _ := h1c
      have HBx : Hid _ := mkb1 wr #[.int .i64 0, .int .i64 0, .int .u16 0, .int .u16 0, .int .u64 0, .int .u64 0, .int .u64 0, .slice none 0 0, .slice none 0 0] 46
      clear hko hr hop hn1 hn2 hg hnL h1c
      simp only [opl] at HR H1
      go_wp2_with (first | (refine wpList_load_mid rfl 46 _ rfl g (off + k * 9) rfl _ _ HR.out Try.underlying46 rfl infoOp ?_) | (refine wpList_store_row rfl 46 _ _ rfl wr.heap.size _ rfl rfl 46 _ HBx.out.a infoOp rfl H1.out ?_) | fail)
      have HW1 : Hid (Below wr.heap.size wr ((wr.alloc (.cells #[.int .i64 0, .int .i64 0, .int .u16 0, .int .u16 0, .int .u64 0, .int .u64 0, .int .u64 0, .slice none 0 0, .slice none 0 0] 46)).setRow wr.heap.size #[.int .i64 o.kind, .int .i64 o.id, .int .u16 o.rq.fl, .int .u16 o.rq.ty, .int .u64 o.rq.ck, .int .u64 o.rq.off, .int .u64 o.rq.len, .slice da n1 dc, .slice aa n2 ac]) ∧ ((wr.alloc (.cells #[.int .i64 0, .int .i64 0, .int .u16 0, .int .u16 0, .int .u64 0, .int .u64 0, .int .u64 0, .slice none 0 0, .slice none 0 0] 46)).setRow wr.heap.size #[.int .i64 o.kind, .int .i64 o.id, .int .u16 o.rq.fl, .int .u16 o.rq.ty, .int .u64 o.rq.ck, .int .u64 o.rq.off, .int .u64 o.rq.len, .slice da n1 dc, .slice aa n2 ac]).heap[wr.heap.size]? = some (.cells #[.int .i64 o.kind, .int .i64 o.id, .int .u16 o.rq.fl, .int .u16 o.rq.ty, .int .u64 o.rq.ck, .int .u64 o.rq.off, .int .u64 o.rq.len, .slice da n1 dc, .slice aa n2 ac] 46 (0, 0))) := ⟨below_row (below1 wr _) (Nat.le_refl _) _, setRow_heap _ wr.heap.size _ _ 46 _ (heap_new wr _)⟩
      generalize ((wr.alloc (.cells #[.int .i64 0, .int .i64 0, .int .u16 0, .int .u16 0, .int .u64 0, .int .u64 0, .int .u64 0, .slice none 0 0, .slice none 0 0] 46)).setRow wr.heap.size #[.int .i64 o.kind, .int .i64 o.id, .int .u16 o.rq.fl, .int .u16 o.rq.ty, .int .u64 o.rq.ck, .int .u64 o.rq.off, .int .u64 o.rq.len, .slice da n1 dc, .slice aa n2 ac]) = W1 at *
      have HO1 : Hid _ := HI.out.1.later HW1.out.1
      have b1 : W1.cell? ⟨wr.heap.size, 1, none⟩ = some (.int .i64 o.id) := (blk_at HW1.out.2 1).trans rfl
      clear HBx H1 HR
      go_loopw [14, 15] (fun at_ i wx => ∃ (j q : Nat) (a : Int), j ≤ nL ∧ i = .int .i64 j ∧ wx = W1.drewN q ∧ at_ = .int .i64 a ∧ Hid (AtP Is o.id j a)) (fun _ i _ => nL - (intOf i).toNat)
      case atStart => exact ⟨0, 0, -1, Nat.zero_le _, rfl, rfl, rfl, .inl ⟨rfl, fun j hj => by omega⟩⟩
      case round =>
        obtain ⟨j, q, a, hj, rfl, rfl, rfl, HA⟩ := hrel
        by_cases hjl : j < nL
        · obtain ⟨gi, rfl, hic⟩ := HO1.out.idCell rfl HLn.out.1 j hjl
          have hjz : (j : Int) < (nL : Int) := by omega
          by_cases hx : Is[j]?.getD 0 = o.id
          · have HA2 : Hid (AtP Is o.id (j + 1) j) := .inr ⟨j, by omega, rfl, hx⟩
            rw [hx] at hic
            clear hx
            go_wp2
            go_quiet (fail)
            go_wp2
            go_roundw
            case rel => exact ⟨j + 1, _, j, by omega, by go_num, rfl, rfl, HA2⟩
            case measure => simp [intOf]; omega
          · have HA2 : Hid (AtP Is o.id (j + 1) a) := by
              rcases HA.out with ⟨h1, h2⟩ | ⟨j2, h1, h2, h3⟩
              · exact .inl ⟨h1, fun j3 h3 => by
                  rcases Nat.lt_or_ge j3 j with h4 | h4
                  · exact h2 j3 h4
                  · have : j3 = j := by omega
                    rw [this]; exact hx⟩
              · exact .inr ⟨j2, by omega, h2, h3⟩
            have hne : (Is[j]?.getD 0 == o.id) = false := by simpa using hx
            clear hx
            generalize Is[j]?.getD 0 = y at hic hne
            go_wp2
            go_quiet (fail)
            go_wp2
            go_roundw
            case rel => exact ⟨j + 1, _, a, by omega, by go_num, rfl, rfl, HA2⟩
            case measure => simp [intOf]; omega
        · obtain rfl : j = nL := by omega
          have HW2 : Hid (Below W1.heap.size W1 (W1.drewN q)) := below_drewN _ q
          have HO2 : Hid _ := HO1.out.later HW2.out
          have HX2 : Hid ((W1.drewN q).heap[wr.heap.size]? = some (.cells #[.int .i64 o.kind, .int .i64 o.id, .int .u16 o.rq.fl, .int .u16 o.rq.ty, .int .u64 o.rq.ck, .int .u64 o.rq.off, .int .u64 o.rq.len, .slice da n1 dc, .slice aa n2 ac] 46 (0, 0))) := HW1.out.2
          have HBw : Hid (Below w.heap.size w (W1.drewN q)) := HI.out.2.2.2.2.2.trans ((HW1.out.1.trans (HW2.out.mono HW1.out.1.size)).mono HI.out.2.2.2.2.2.size)
          generalize W1.drewN q = W2 at *
          have k0 : W2.cell? ⟨wr.heap.size, 0, none⟩ = some (.int .i64 o.kind) := (blk_at HX2.out 0).trans rfl
          clear HO1 HW1 HW2 b1
          obtain ⟨HSa, HMo, HLa, HLV⟩ : Hid (Same S Is Qs Rs As) ∧ Hid (S.most = m) ∧ Hid (S.last ≤ k) ∧ Hid (LoV w.heap.size (.slice ai j ci) (.slice aq j cq) (.slice ar j cr) (.slice ax j cx)) := ⟨HI.out.2.1, HI.out.2.2.1, HI.out.2.2.2.1, HI.out.2.2.2.2.1⟩
          have HNb : Hid ((b ≠ wr.heap.size ∧ bm ≠ wr.heap.size) ∧ (Value.slice ai j ci).ownBlock ≠ some wr.heap.size ∧ (Value.slice aq j cq).ownBlock ≠ some wr.heap.size ∧ (Value.slice ar j cr).ownBlock ≠ some wr.heap.size ∧ (Value.slice ax j cx).ownBlock ≠ some wr.heap.size) := by
            exact ne_box HI.out.1
          clear HI
          have HOw : Hid (Ow w W2 wr.heap.size (.cells #[.int .i64 o.kind, .int .i64 o.id, .int .u16 o.rq.fl, .int .u16 o.rq.ty, .int .u64 o.rq.ck, .int .u64 o.rq.off, .int .u64 o.rq.len, .slice da n1 dc, .slice aa n2 ac] 46 (0, 0)) F b bm V S (.slice ai j ci) (.slice aq j cq) (.slice ar j cr) (.slice ax j cx) D Is Qs Rs As) := ⟨HO2.out, HLV.out, HBw.out, HLb.out, HX2.out, HNb.out.1, HNb.out.2⟩
          clear HO2 HX2 HBw HLV
          generalize o.kind = kd at *
          go_upto_block 4 with fail
          go_cut [7, 8, 9, 10, 11, 16, 17, 18, 19, 20, 21, 22] from 42 to 286 (fun vi vq vr va gi s16 s17 s18 s19 s20 s21 s22 wc => ∃ (F : Nat → Prop) (V : Int → Value) (S : St) (D : Nat → Prop) (Is : List Int) (Qs : List Qx) (Rs : List Bool) (As : List Ax), gi = .int .i64 (S.last : Int) ∧ Hid (On wc F b bm V S vi vq vr va D Is Qs Rs As ∧ Same S Is Qs Rs As ∧ S.most = m ∧ S.last ≤ k + 1 ∧ LoV w.heap.size vi vq vr va ∧ Below w.heap.size w wc))
          case first =>
            by_cases hk1 : kd = 1
            · skip
              subst hk1
              have HOpB : Hid _ := HOp.out.below HOw.out.be
              have k2 : W2.cell? ⟨wr.heap.size, 2, none⟩ = some (.int .u16 o.rq.fl) := (blk_at HOw.out.bx 2).trans rfl
              have k3 : W2.cell? ⟨wr.heap.size, 3, none⟩ = some (.int .u16 o.rq.ty) := (blk_at HOw.out.bx 3).trans rfl
              have k4 : W2.cell? ⟨wr.heap.size, 4, none⟩ = some (.int .u64 o.rq.ck) := (blk_at HOw.out.bx 4).trans rfl
              have k5 : W2.cell? ⟨wr.heap.size, 5, none⟩ = some (.int .u64 o.rq.off) := (blk_at HOw.out.bx 5).trans rfl
              have k6 : W2.cell? ⟨wr.heap.size, 6, none⟩ = some (.int .u64 o.rq.len) := (blk_at HOw.out.bx 6).trans rfl
              have k7 : W2.cell? ⟨wr.heap.size, 7, none⟩ = some (.slice da n1 dc) := (blk_at HOw.out.bx 7).trans rfl
              by_cases hful : j < m
              · have HA1 : Hid _ := add_ok HOw.out.on.t (by rw [HNL.out, HMo.out]; exact hful) (by have := HLa.out; omega) o.rq da dc HOpB.out.d.row
                simp only [rcl, HN1.out] at HA1
                obtain ⟨la, hla⟩ : ∃ la, S.last = la := ⟨_, rfl⟩
                have HLl : Hid _ := hla
                rw [hla] at HA1 ⊢
                have hlk : la ≤ k := by rw [← hla]; exact HLa.out
                have hwr : IntKind.i64.wrap ((la : Int) + 1) = (la : Int) + 1 := wrap_la la (by omega)
                have hjm : (j : Int) < (m : Int) := by omega
                have hjmd : decide ((j : Int) < (m : Int)) = true := by simpa using hjm
                clear hla
                go_wp2_with fail
                refine Calls.mono HA1.out ?_
                rintro r w7 ⟨rfl, F7, V7, ha7⟩
                have HO7 : Hid _ := HOw.out.actT ha7
                have HI7 : Hid (w7.ownsRow 0 TIn 1 (.slice ai j ci) j (Is.map iv)) := by have := HO7.out.on.i; rw [HLn.out.1] at this; exact this
                clear ha7 HA1 k0 k2 k3 k4 k5 k6 k7 HOw HOpB
                go_wp2_with (first | (at_builtin; refine wpList_append_own_at _ rfl (.tmp 98) (.tmp 100) 28 rfl 0 TIn ii _ 1 8 Try.underlying28 hi0 hi1 hi2 hi3 rfl (by decide) (.slice ai j ci) j (Is.map iv) rfl (HI7.out.alloc _) ⟨w7.heap.size, 0, none⟩ 1 1 [.int .i64 ((la : Int) + 1)] rfl rfl (World.news_of_block (heap_alloc_new w7 _)) (by simp [Value.oneCell']) (by unfold maxLen; omega) (by omega) (Nat.zero_le _) ?_; intro v8 w8 ho8 hg8 _ hat8; have HO8 : Hid (Ow w w8 wr.heap.size (.cells #[.int .i64 1, .int .i64 o.id, .int .u16 o.rq.fl, .int .u16 o.rq.ty, .int .u64 o.rq.ck, .int .u64 o.rq.off, .int .u64 o.rq.len, .slice da n1 dc, .slice aa n2 ac] 46 (0, 0)) F7 b bm V7 (addS S o.rq) v8 (.slice aq j cq) (.slice ar j cr) (.slice ax j cx) D (Is ++ [(la : Int) + 1]) Qs Rs As) := HO7.out.appI HLn.out.1 ho8 hg8 hat8; have k2 : w8.cell? ⟨wr.heap.size, 2, none⟩ = some (.int .u16 o.rq.fl) := (blk_at HO8.out.bx 2).trans rfl; have k3 : w8.cell? ⟨wr.heap.size, 3, none⟩ = some (.int .u16 o.rq.ty) := (blk_at HO8.out.bx 3).trans rfl; have k4 : w8.cell? ⟨wr.heap.size, 4, none⟩ = some (.int .u64 o.rq.ck) := (blk_at HO8.out.bx 4).trans rfl; have k5 : w8.cell? ⟨wr.heap.size, 5, none⟩ = some (.int .u64 o.rq.off) := (blk_at HO8.out.bx 5).trans rfl; have k6 : w8.cell? ⟨wr.heap.size, 6, none⟩ = some (.int .u64 o.rq.len) := (blk_at HO8.out.bx 6).trans rfl; have k7 : w8.cell? ⟨wr.heap.size, 7, none⟩ = some (.slice da n1 dc) := (blk_at HO8.out.bx 7).trans rfl; clear ho8 hg8 hat8) | fail)
                have HRq : Hid _ := request_any o.rq da dc n1 (HOp.out.below HO8.out.be).d.row HN1
                clear HO7 HI7
                refine Calls.mono HRq.out ?_
                rintro r w9 ⟨a9, c9, rfl, ho9, hb9⟩
                have HO9 : Hid _ := HO8.out.addD hb9 ho9 (Nat.le_refl _)
                have HQ9 : Hid (w9.ownsRow 0 TRq 6 (.slice aq j cq) j (Qs.flatMap qc)) := by have := HO9.out.on.q; rw [HLn.out.2.1] at this; exact this
                have HF9 : Hid (FRow w9 (fun g => D g ∨ (Value.slice a9 n1 c9).ownBlock = some g) a9 c9 o.rq.data) := frow_new ho9 HN1.out HOp.out.d.row
                clear k2 k3 k4 k5 k6 k7 HRq HO8 ho9 hb9
                go_wp2_with (first | (at_builtin; refine wpList_append_own_at _ rfl (.tmp 102) (.tmp 106) 37 rfl 0 TRq iq _ 6 56 Try.underlying37 hq0 hq1 hq2 hq3 rfl (by decide) (.slice aq j cq) j (Qs.flatMap qc) rfl (HQ9.out.alloc _) ⟨w9.heap.size, 0, none⟩ 1 1 [.int .u16 o.rq.fl, .int .u16 o.rq.ty, .int .u64 o.rq.ck, .int .u64 o.rq.off, .int .u64 o.rq.len, .slice a9 n1 c9] rfl rfl (World.news_of_block (heap_alloc_new w9 _)) (by simp [Value.oneCell']) (by unfold maxLen; omega) (by omega) (Nat.zero_le _) ?_; intro v10 w10 ho10 hg10 _ hat10; have HO10 : Hid (Ow w w10 wr.heap.size (.cells #[.int .i64 1, .int .i64 o.id, .int .u16 o.rq.fl, .int .u16 o.rq.ty, .int .u64 o.rq.ck, .int .u64 o.rq.off, .int .u64 o.rq.len, .slice da n1 dc, .slice aa n2 ac] 46 (0, 0)) F7 b bm V7 (addS S o.rq) v8 v10 (.slice ar j cr) (.slice ax j cx) (fun g => D g ∨ (Value.slice a9 n1 c9).ownBlock = some g) (Is ++ [(la : Int) + 1]) (Qs ++ [(o.rq, a9, c9)]) Rs As) := HO9.out.appQ HLn.out.2.1 (x := (o.rq, a9, c9)) (by rw [qc_new HN1.out]; exact ho10) hg10 hat10 HF9.out; have HR10 : Hid (w10.ownsRow 0 TBo 1 (.slice ar j cr) j (Rs.map .bool)) := row_n HO10.out.on.r HLn.out.2.2.1; clear ho10 hg10 hat10) | (at_builtin; refine wpList_append_own_at _ rfl (.tmp 108) (.tmp 109) 38 rfl 0 TBo ib _ 1 1 Try.underlying38 hb0 hb1 hb2 hb3 rfl (by decide) (.slice ar j cr) j (Rs.map .bool) rfl (HR10.out.alloc _) ⟨w10.heap.size, 0, none⟩ 1 1 [.bool false] rfl rfl (World.news_of_block (heap_alloc_new w10 _)) (by simp [Value.oneCell']) (by unfold maxLen; omega) (by omega) (Nat.zero_le _) ?_; intro v11 w11 ho11 hg11 _ hat11; have HO11 : Hid (Ow w w11 wr.heap.size (.cells #[.int .i64 1, .int .i64 o.id, .int .u16 o.rq.fl, .int .u16 o.rq.ty, .int .u64 o.rq.ck, .int .u64 o.rq.off, .int .u64 o.rq.len, .slice da n1 dc, .slice aa n2 ac] 46 (0, 0)) F7 b bm V7 (addS S o.rq) v8 v10 v11 (.slice ax j cx) (fun g => D g ∨ (Value.slice a9 n1 c9).ownBlock = some g) (Is ++ [(la : Int) + 1]) (Qs ++ [(o.rq, a9, c9)]) (Rs ++ [false]) As) := HO10.out.appR HLn.out.2.2.1 ho11 hg11 hat11; have HA11 : Hid (w11.ownsRow 0 TBy 1 (.slice ax j cx) j (As.map ab)) := row_n HO11.out.on.a HLn.out.2.2.2; clear ho11 hg11 hat11) | (at_builtin; refine wpList_append_own_at _ rfl (.tmp 111) (.tmp 112) 39 rfl 0 TBy iy _ 1 24 Try.underlying39 hy0 hy1 hy2 hy3 rfl (by decide) (.slice ax j cx) j (As.map ab) rfl (HA11.out.alloc _) ⟨w11.heap.size, 0, none⟩ 1 1 [.slice none 0 0] rfl rfl (World.news_of_block (heap_alloc_new w11 _)) (by simp [Value.oneCell']) (by unfold maxLen; omega) (by omega) (Nat.zero_le _) ?_; intro v12 w12 ho12 hg12 _ hat12; have HO12 : Hid (Ow w w12 wr.heap.size (.cells #[.int .i64 1, .int .i64 o.id, .int .u16 o.rq.fl, .int .u16 o.rq.ty, .int .u64 o.rq.ck, .int .u64 o.rq.off, .int .u64 o.rq.len, .slice da n1 dc, .slice aa n2 ac] 46 (0, 0)) F7 b bm V7 (addS S o.rq) v8 v10 v11 v12 (fun g => D g ∨ (Value.slice a9 n1 c9).ownBlock = some g) (Is ++ [(la : Int) + 1]) (Qs ++ [(o.rq, a9, c9)]) (Rs ++ [false]) (As ++ [([], none, 0)])) := HO11.out.appA HLn.out.2.2.2 ho12 hg12 hat12; clear ho12 hg12 hat12) | fail)
                go_meet
                exact ⟨F7, V7, addS S o.rq, _, _, _, _, _, by simp [addS, HLl.out], HO12.out.on, by have := HSa.out.add o.rq a9 c9; rw [HLl.out] at this; exact this, HMo.out, by simp only [addS, HLl.out]; omega, HO12.out.lo, HO12.out.be⟩
              · have HA1 : Hid _ := add_full HOw.out.on.t (full_eq HOw.out.on.t.ok HNL.out HMo.out hful) (.int .u16 o.rq.fl) (.int .u16 o.rq.ty) (.int .u64 o.rq.ck) (.int .u64 o.rq.off) (.int .u64 o.rq.len) (.slice da n1 dc)
                have hjm : ¬ (j : Int) < (m : Int) := by omega
                have hjmd : decide ((j : Int) < (m : Int)) = false := by simpa using hful
                go_wp2_with fail
                refine Calls.mono HA1.out ?_
                rintro r w7 ⟨rfl, hb7⟩
                have HO7 : Hid _ := HOw.out.later hb7
                clear HA1 hb7 k0 k2 k3 k4 k5 k6 k7 HOw
                go_wp2
                go_meet
                exact ⟨F, V, S, D, Is, Qs, Rs, As, rfl, HO7.out.on, HSa.out, HMo.out, by have := HLa.out; omega, HO7.out.lo, HO7.out.be⟩
            by_cases hk2 : kd = 2
            · clear hk1
              as_aux_lemma =>
                subst hk2
                have HOpB : Hid _ := HOp.out.below HOw.out.be
                have k1 : W2.cell? ⟨wr.heap.size, 1, none⟩ = some (.int .i64 o.id) := (blk_at HOw.out.bx 1).trans rfl
                have k8 : W2.cell? ⟨wr.heap.size, 8, none⟩ = some (.slice aa n2 ac) := (blk_at HOw.out.bx 8).trans rfl
                rcases HA.out with ⟨hat, hno⟩ | ⟨jj, hjj, hat, hyes⟩
                · subst hat
                  as_aux_lemma =>
                    have HD := done_no HOw.out.on.t o.id (no_id HSa.out HLn.out.1 hno) HOp.out.wf (.slice aa n2 ac)
                    go_wp2_with fail
                    refine Calls.mono HD ?_
                    rintro r w7 ⟨rfl, hb7⟩
                    have HO7 : Hid _ := HOw.out.later hb7
                    clear HD hb7 k0 k1 k8 HOw HA
                    go_wp2
                    go_meet
                    exact ⟨F, V, S, D, Is, Qs, Rs, As, rfl, HO7.out.on, HSa.out, HMo.out, by have := HLa.out; omega, HO7.out.lo, HO7.out.be⟩
                · subst hat
                  obtain ⟨e, he, hid⟩ := at_id HSa.out HNL.out hjj hyes
                  have hem := List.mem_of_getElem? he
                  have hjz : (jj : Int) < (j : Int) := by omega
                  have hjn : ¬ (jj : Int) < 0 := by omega
                  have hj0 : (0 : Int) ≤ (jj : Int) := by omega
                  by_cases hrd : e.rd = true
                  · as_aux_lemma =>
                      have HD := done_rdy HOw.out.on.t e hem hrd (.slice aa n2 ac)
                      rw [hid] at HD
                      go_wp2_with fail
                      refine Calls.mono HD ?_
                      rintro r w7 ⟨rfl, hb7⟩
                      have HO7 : Hid _ := HOw.out.later hb7
                      obtain ⟨gi, gq, gr, ga, qd, qe, qa, qb, rfl, rfl, rfl, rfl, ci0, hq0, cr0, ca0, _⟩ := HO7.out.on.at HSa.out HNL.out jj e he
                      rw [hrd] at cr0
                      clear HD hb7 k0 k1 k8 HOw HA ci0 hq0 ca0 hem
                      go_wp2
                      go_meet
                      exact ⟨F, V, S, D, Is, Qs, Rs, As, rfl, HO7.out.on, HSa.out, HMo.out, by have := HLa.out; omega, HO7.out.lo, HO7.out.be⟩
                  · have hrd : e.rd = false := by simpa using hrd
                    as_aux_lemma =>
                      have HD := done_ok HOw.out.on.t e hem hrd aa ac n2 o.an HOpB.out.a.row HN2
                      rw [hid] at HD
                      go_wp2_with fail
                      refine Calls.mono HD ?_
                      rintro r w7 ⟨rfl, F7, V7, ha7⟩
                      have HSk : Hid (SOk S) := HOw.out.on.t.ok
                      have HO7 : Hid _ := HOw.out.actT ha7
                      obtain ⟨gi, gq, gr, ga, qd, qe, qa, qb, rfl, rfl, rfl, rfl, ci0, hq0, cr0, ca0, _⟩ := (HOw.out.on.at HSa.out HNL.out jj e he)
                      have cr7 : w7.cell? ⟨gr, jj, none⟩ = some (.bool false) := by rw [← hrd]; exact r_cell HO7.out.on HSa.out HNL.out jj e he
                      have cf7 : w7.frozen? ⟨gr, jj, none⟩ = false := r_free HO7.out.on.r jj
                      have HE : Hid _ := he
                      have HId : Hid _ := hid
                      clear HD ha7 k0 k1 k8 HOw HA ci0 hq0 ca0 cr0 hem he hid hrd HOpB
                      have HO8 : Hid _ := HO7.out.setR HLn.out.2.2.1 jj true
                      have k8 : w7.cell? ⟨wr.heap.size, 8, none⟩ = some (.slice aa n2 ac) := (blk_at HO7.out.bx 8).trans rfl
                      have k9 : (w7.setCell ⟨gr, jj, none⟩ (.bool true)).cell? ⟨wr.heap.size, 8, none⟩ = some (.slice aa n2 ac) := (blk_at HO8.out.bx 8).trans rfl
                      have hgx : ¬ gr = wr.heap.size := fun e => HO7.out.nx.2.2.1 (by rw [e]; rfl)
                      have hgx2 : ¬ wr.heap.size = gr := fun e => hgx e.symm
                      have HC : Hid _ := copy_any aa ac n2 o.an (w7.setCell ⟨gr, jj, none⟩ (.bool true)) (HOp.out.below HO8.out.be).a.row HN2.out
                      clear HO7
                      go_wp2_with fail
                      refine Calls.mono HC.out ?_
                      rintro r w9 ⟨a9, c9, rfl, ho9, hb9⟩
                      have HO9 : Hid _ := HO8.out.addD hb9 ho9 (Nat.le_refl _)
                      have HF9 : Hid (FRow w9 (fun g => D g ∨ (Value.slice a9 n2 c9).ownBlock = some g) a9 c9 o.an) := frow_newA ho9 HN2.out HOp.out.a.row
                      have ca9 := a_cell HO9.out.on HLn.out.2.2.2 jj hjj
                      have cf9 : w9.frozen? ⟨ga, jj, none⟩ = false := r_free HO9.out.on.a jj
                      have HO10 : Hid _ := HO9.out.setA HLn.out.2.2.2 jj (o.an, a9, c9) HF9.out
                      simp only [ab, HN2.out] at HO10
                      clear HC HO8 k8 k9 cr7 cf7 ho9 hb9
                      obtain ⟨ov, hov⟩ := ca9
                      go_wp2
                      go_meet
                      exact ⟨F7, V7, doneS S o.id o.an, _, Is, Qs, _, _, rfl, HO10.out.on, by have := HSa.out.done HSk.out HE.out o.an a9 c9; rw [HId.out] at this; exact this, HMo.out, by have := HLa.out; show S.last ≤ _; omega, HO10.out.lo, HO10.out.be⟩
            by_cases hk3 : kd = 3
            · clear hk1 hk2
              subst hk3
              have k1 : W2.cell? ⟨wr.heap.size, 1, none⟩ = some (.int .i64 o.id) := (blk_at HOw.out.bx 1).trans rfl
              rcases HA.out with ⟨hat, hno⟩ | ⟨jj, hjj, hat, hyes⟩
              · as_aux_lemma =>
                  subst hat
                  have HD := take_no HOw.out.on.t o.id (no_id HSa.out HLn.out.1 hno) HOp.out.wf
                  go_wp2_with fail
                  refine Calls.mono HD ?_
                  rintro r w7 ⟨rfl, hb7⟩
                  have HO7 : Hid _ := HOw.out.later hb7
                  clear HD hb7 k0 k1 HOw HA
                  go_wp2
                  go_meet
                  exact ⟨F, V, S, D, Is, Qs, Rs, As, rfl, HO7.out.on, HSa.out, HMo.out, by have := HLa.out; omega, HO7.out.lo, HO7.out.be⟩
              · subst hat
                obtain ⟨e, he, hid⟩ := at_id HSa.out HNL.out hjj hyes
                have hem := List.mem_of_getElem? he
                have hjz : (jj : Int) < (j : Int) := by omega
                have hjn : ¬ (jj : Int) < 0 := by omega
                have hj0 : (0 : Int) ≤ (jj : Int) := by omega
                by_cases hrd : e.rd = false
                · as_aux_lemma =>
                    have HD := take_pend HOw.out.on.t e hem hrd
                    rw [hid] at HD
                    go_wp2_with fail
                    refine Calls.mono HD ?_
                    rintro r w7 ⟨rfl, hb7⟩
                    have HO7 : Hid _ := HOw.out.later hb7
                    obtain ⟨gi, gq, gr, ga, qd, qe, qa, qb, rfl, rfl, rfl, rfl, ci0, hq0, cr0, ca0, _⟩ := HO7.out.on.at HSa.out HNL.out jj e he
                    rw [hrd] at cr0
                    clear HD hb7 k0 k1 HOw HA ci0 hq0 ca0 hem
                    go_wp2
                    go_meet
                    exact ⟨F, V, S, D, Is, Qs, Rs, As, rfl, HO7.out.on, HSa.out, HMo.out, by have := HLa.out; omega, HO7.out.lo, HO7.out.be⟩
                · have hrd : e.rd = true := by simpa using hrd
                  as_aux_lemma =>
                    obtain ⟨m2, hm2'⟩ : ∃ n, e.an.length = n := ⟨_, rfl⟩
                    have HM2 : Hid _ := hm2'
                    have HD := take_ok HOw.out.on.t e hem hrd
                    rw [hid, hm2'] at HD
                    clear hm2'
                    go_wp2_with fail
                    refine Calls.mono HD ?_
                    rintro r w7 ⟨pa, pb, rfl, hpr, ha7⟩
                    have HSk : Hid (SOk S) := HOw.out.on.t.ok
                    have HO7 : Hid _ := HOw.out.actT ha7
                    obtain ⟨gi, gq, gr, ga, qd, qe, qa, qb, rfl, rfl, rfl, rfl, ci0, hq0, cr0, ca0, _⟩ := HOw.out.on.at HSa.out HNL.out jj e he
                    have cr7 : w7.cell? ⟨gr, jj, none⟩ = some (.bool true) := by rw [← hrd]; exact r_cell HO7.out.on HSa.out HNL.out jj e he
                    obtain ⟨sa, sc, ca7, hsr⟩ := a_cellS HO7.out.on HSa.out HNL.out jj e he
                    rw [HM2.out] at ca7
                    have HSM : Hid (Calls Try.prog 22 #[.slice pa m2 pb, .slice sa m2 sc] w7 fun e w' => e = .returned (.bool true) ∧ ∃ q', w' = w7.drewN q') := by
                      have h9 := same_any pa sa pb sc e.an e.an w7 (brow_own hpr HM2.out hsr.row.lt hsr.row.len) hsr.row
                      rw [HM2.out] at h9
                      simp only [decide_true] at h9
                      exact h9
                    have HE : Hid _ := he
                    have HId : Hid _ := hid
                    clear HD ha7 k0 k1 HOw HA ci0 hq0 ca0 cr0 hem he hid hrd hpr hsr hyes
                    go_wp2_with fail
                    refine Calls.mono HSM.out ?_
                    rintro r w8 ⟨rfl, q8, hw8⟩
                    have HO0 : Hid (Ow w w8 wr.heap.size (.cells #[.int .i64 3, .int .i64 o.id, .int .u16 o.rq.fl, .int .u16 o.rq.ty, .int .u64 o.rq.ck, .int .u64 o.rq.off, .int .u64 o.rq.len, .slice da n1 dc, .slice aa n2 ac] 46 (0, 0)) F b bm V (takeS S o.id) (.slice (some ⟨gi, 0, none⟩) j ci) (.slice (some ⟨gq, 0, none⟩) j cq) (.slice (some ⟨gr, 0, none⟩) j cr) (.slice (some ⟨ga, 0, none⟩) j cx) D Is Qs Rs As) := by rw [hw8]; exact HO7.out.later (below_drewN _ q8)
                    clear HSM HO7 cr7 ca7 hw8
                    have hle1 : ((jj + 1 : Nat) : Int) ≤ (j : Int) := by omega
                    have hle2 : (jj : Int) + 1 ≤ (j : Int) := by omega
                    have hA3 : jj + 1 ≤ j := by omega
                    have hB4 : (0 : Int) ≤ (jj : Int) + 1 := by omega
                    have hB5 : ¬ (jj : Int) + 1 < 0 := by omega
                    have hB6 : IntKind.i64.wrap ((jj : Int) + 1) = (jj : Int) + 1 := wrap_la jj (by omega)
                    have hB7 : ((jj : Int) + 1).toNat = jj + 1 := by omega
                    go_wp2
                    have HCi : Hid _ := HO0.out.cI (k := jj) HLn.out.1 hjj
                    have hcp : j ≤ ci ∧ ci ≤ 9223372036854775807 := HCi.out.cap
                    have HBai : Hid (Below w8.heap.size w8 (w8.alloc (.cells #[] TIn)).drew) := made_belowD w8 TIn
                    have hcl : jj + 1 ≤ ci := by omega
                    have hcz : ((jj + 1 : Nat) : Int) ≤ (ci : Int) := by omega
                    have hA1 : jj ≤ ci := by omega
                    have hA2 : (jj : Int) ≤ (ci : Int) := by omega
                    have hA4 : j ≤ ci := by omega
                    have hA5 : (j : Int) ≤ (ci : Int) := by omega
                    have hw1 := wrap_nj j jj (by omega) (by omega)
                    have hw2 := wrap_nj ci jj (by omega) (by omega)
                    go_region_held3 (fun _ => True) (exact trivial) (first | (refine step_append_own (by rfl) (.tmp 179) (.tmp 182) 28 (by rfl) w8.heap.size TIn ii _ 1 8 Try.underlying28 hi0 hi1 hi2 hi3 rfl (by decide) (.slice (some ⟨w8.heap.size, 0, none⟩) 0 0) 0 [] (by rfl) (made_rowD w8 TIn 1) ⟨gi, 0, none⟩ jj ci ((Is.take jj).flatMap (fun x => [iv x])) (by first | rfl | simp [Act.eval, Act.put]) HCi.out.la (HCi.out.ca _ HBai.out) HCi.out.oa (by unfold maxLen; omega) (by omega) HBai.out.size jj (Nat.zero_add _) _ (List.nil_append _) ?_; intro poi pci wpi hop1 hgp1; have HBr : Hid (Below w8.heap.size w8 wpi) := below_any HBai.out hgp1; have HOr : Hid (wpi.ownsRow w8.heap.size TIn 1 (.slice poi jj pci) jj ((Is.take jj).flatMap (fun x => [iv x]))) := hop1; clear hop1 hgp1) | (refine step_append_opt (by rfl) (.tmp 183) (.tmp 187) 28 (by rfl) w8.heap.size TIn ii _ 1 8 Try.underlying28 hi0 hi1 hi2 hi3 rfl (by decide) (.slice poi jj pci) jj _ (by rfl) HOr.out (if ci = jj + 1 then some ⟨gi, 0, none⟩ else some ⟨gi, jj + 1, none⟩) (j - (jj + 1)) (ci - (jj + 1)) ((Is.drop (jj + 1)).flatMap (fun x => [iv x])) (by first | rfl | simp [Act.eval, Act.put]) HCi.out.lb (HCi.out.opt1 hjj _ HBr.out) HCi.out.ob (by unfold maxLen; omega) (by omega) HBr.out.size (jj + (j - (jj + 1))) rfl _ rfl ?_; intro ni mi wqi hop2 hgp2; have HO1 : Hid (Ow w wqi wr.heap.size (.cells #[.int .i64 3, .int .i64 o.id, .int .u16 o.rq.fl, .int .u16 o.rq.ty, .int .u64 o.rq.ck, .int .u64 o.rq.off, .int .u64 o.rq.len, .slice da n1 dc, .slice aa n2 ac] 46 (0, 0)) F b bm V (takeS S o.id) (.slice ni (jj + (j - (jj + 1))) mi) (.slice (some ⟨gq, 0, none⟩) j cq) (.slice (some ⟨gr, 0, none⟩) j cr) (.slice (some ⟨ga, 0, none⟩) j cx) D (Is.take jj ++ Is.drop (jj + 1)) Qs Rs As) := HO0.out.nI HLn.out.1 hjj (below_app2 HBr.out HOr.out hgp2) hop2; clear hop2 hgp2))
                    generalize (if ci = jj + 1 then some ⟨gi, 0, none⟩ else some ⟨gi, jj + 1, none⟩ : Option Addr) = zzi
                    clear HCi hcp HBai HO0 HBr HOr hcl hcz hA1 hA2 hA4 hA5 hw1 hw2
                    go_wp2
                    have HCq : Hid _ := HO1.out.cQ (k := jj) HLn.out.2.1 hjj
                    have hcp : j ≤ cq ∧ cq ≤ 9223372036854775807 := HCq.out.cap
                    have HBaq : Hid (Below wqi.heap.size wqi (wqi.alloc (.cells #[] TRq)).drew) := made_belowD wqi TRq
                    have hcl : jj + 1 ≤ cq := by omega
                    have hcz : ((jj + 1 : Nat) : Int) ≤ (cq : Int) := by omega
                    have hA1 : jj ≤ cq := by omega
                    have hA2 : (jj : Int) ≤ (cq : Int) := by omega
                    have hA4 : j ≤ cq := by omega
                    have hA5 : (j : Int) ≤ (cq : Int) := by omega
                    have hw1 := wrap_nj j jj (by omega) (by omega)
                    have hw2 := wrap_nj cq jj (by omega) (by omega)
                    go_region_held3 (fun _ => True) (exact trivial) (first | (refine step_append_own (by rfl) (.tmp 189) (.tmp 192) 37 (by rfl) wqi.heap.size TRq iq _ 6 56 Try.underlying37 hq0 hq1 hq2 hq3 rfl (by decide) (.slice (some ⟨wqi.heap.size, 0, none⟩) 0 0) 0 [] (by rfl) (made_rowD wqi TRq 6) ⟨gq, 0, none⟩ jj cq ((Qs.take jj).flatMap qc) (by first | rfl | simp [Act.eval, Act.put]) HCq.out.la (HCq.out.ca _ HBaq.out) HCq.out.oa (by unfold maxLen; omega) (by omega) HBaq.out.size jj (Nat.zero_add _) _ (List.nil_append _) ?_; intro poq pcq wpq hop1 hgp1; have HBr : Hid (Below wqi.heap.size wqi wpq) := below_any HBaq.out hgp1; have HOr : Hid (wpq.ownsRow wqi.heap.size TRq 6 (.slice poq jj pcq) jj ((Qs.take jj).flatMap qc)) := hop1; clear hop1 hgp1) | (refine step_append_opt (by rfl) (.tmp 193) (.tmp 197) 37 (by rfl) wqi.heap.size TRq iq _ 6 56 Try.underlying37 hq0 hq1 hq2 hq3 rfl (by decide) (.slice poq jj pcq) jj _ (by rfl) HOr.out (if cq = jj + 1 then some ⟨gq, 0, none⟩ else some ⟨gq, (jj + 1) * 6, none⟩) (j - (jj + 1)) (cq - (jj + 1)) ((Qs.drop (jj + 1)).flatMap qc) (by first | rfl | simp [Act.eval, Act.put]) HCq.out.lb (HCq.out.opt hjj _ HBr.out) HCq.out.ob (by unfold maxLen; omega) (by omega) HBr.out.size (jj + (j - (jj + 1))) rfl _ rfl ?_; intro nq mq wqq hop2 hgp2; have HO2 : Hid (Ow w wqq wr.heap.size (.cells #[.int .i64 3, .int .i64 o.id, .int .u16 o.rq.fl, .int .u16 o.rq.ty, .int .u64 o.rq.ck, .int .u64 o.rq.off, .int .u64 o.rq.len, .slice da n1 dc, .slice aa n2 ac] 46 (0, 0)) F b bm V (takeS S o.id) (.slice ni (jj + (j - (jj + 1))) mi) (.slice nq (jj + (j - (jj + 1))) mq) (.slice (some ⟨gr, 0, none⟩) j cr) (.slice (some ⟨ga, 0, none⟩) j cx) D (Is.take jj ++ Is.drop (jj + 1)) (Qs.take jj ++ Qs.drop (jj + 1)) Rs As) := HO1.out.nQ HLn.out.2.1 hjj (below_app2 HBr.out HOr.out hgp2) hop2; clear hop2 hgp2))
                    generalize (if cq = jj + 1 then some ⟨gq, 0, none⟩ else some ⟨gq, (jj + 1) * 6, none⟩ : Option Addr) = zzq
                    clear HCq hcp HBaq HO1 HBr HOr hcl hcz hA1 hA2 hA4 hA5 hw1 hw2
                    go_wp2
                    have HCr : Hid _ := HO2.out.cR (k := jj) HLn.out.2.2.1 hjj
                    have hcp : j ≤ cr ∧ cr ≤ 9223372036854775807 := HCr.out.cap
                    have HBar : Hid (Below wqq.heap.size wqq (wqq.alloc (.cells #[] TBo)).drew) := made_belowD wqq TBo
                    have hcl : jj + 1 ≤ cr := by omega
                    have hcz : ((jj + 1 : Nat) : Int) ≤ (cr : Int) := by omega
                    have hA1 : jj ≤ cr := by omega
                    have hA2 : (jj : Int) ≤ (cr : Int) := by omega
                    have hA4 : j ≤ cr := by omega
                    have hA5 : (j : Int) ≤ (cr : Int) := by omega
                    have hw1 := wrap_nj j jj (by omega) (by omega)
                    have hw2 := wrap_nj cr jj (by omega) (by omega)
                    go_region_held3 (fun _ => True) (exact trivial) (first | (refine step_append_own (by rfl) (.tmp 199) (.tmp 202) 38 (by rfl) wqq.heap.size TBo ib _ 1 1 Try.underlying38 hb0 hb1 hb2 hb3 rfl (by decide) (.slice (some ⟨wqq.heap.size, 0, none⟩) 0 0) 0 [] (by rfl) (made_rowD wqq TBo 1) ⟨gr, 0, none⟩ jj cr ((Rs.take jj).flatMap (fun x => [.bool x])) (by first | rfl | simp [Act.eval, Act.put]) HCr.out.la (HCr.out.ca _ HBar.out) HCr.out.oa (by unfold maxLen; omega) (by omega) HBar.out.size jj (Nat.zero_add _) _ (List.nil_append _) ?_; intro por pcr wpr hop1 hgp1; have HBr : Hid (Below wqq.heap.size wqq wpr) := below_any HBar.out hgp1; have HOr : Hid (wpr.ownsRow wqq.heap.size TBo 1 (.slice por jj pcr) jj ((Rs.take jj).flatMap (fun x => [.bool x]))) := hop1; clear hop1 hgp1) | (refine step_append_opt (by rfl) (.tmp 203) (.tmp 207) 38 (by rfl) wqq.heap.size TBo ib _ 1 1 Try.underlying38 hb0 hb1 hb2 hb3 rfl (by decide) (.slice por jj pcr) jj _ (by rfl) HOr.out (if cr = jj + 1 then some ⟨gr, 0, none⟩ else some ⟨gr, jj + 1, none⟩) (j - (jj + 1)) (cr - (jj + 1)) ((Rs.drop (jj + 1)).flatMap (fun x => [.bool x])) (by first | rfl | simp [Act.eval, Act.put]) HCr.out.lb (HCr.out.opt1 hjj _ HBr.out) HCr.out.ob (by unfold maxLen; omega) (by omega) HBr.out.size (jj + (j - (jj + 1))) rfl _ rfl ?_; intro nr mr wqr hop2 hgp2; have HO3 : Hid (Ow w wqr wr.heap.size (.cells #[.int .i64 3, .int .i64 o.id, .int .u16 o.rq.fl, .int .u16 o.rq.ty, .int .u64 o.rq.ck, .int .u64 o.rq.off, .int .u64 o.rq.len, .slice da n1 dc, .slice aa n2 ac] 46 (0, 0)) F b bm V (takeS S o.id) (.slice ni (jj + (j - (jj + 1))) mi) (.slice nq (jj + (j - (jj + 1))) mq) (.slice nr (jj + (j - (jj + 1))) mr) (.slice (some ⟨ga, 0, none⟩) j cx) D (Is.take jj ++ Is.drop (jj + 1)) (Qs.take jj ++ Qs.drop (jj + 1)) (Rs.take jj ++ Rs.drop (jj + 1)) As) := HO2.out.nR HLn.out.2.2.1 hjj (below_app2 HBr.out HOr.out hgp2) hop2; clear hop2 hgp2))
                    generalize (if cr = jj + 1 then some ⟨gr, 0, none⟩ else some ⟨gr, jj + 1, none⟩ : Option Addr) = zzr
                    clear HCr hcp HBar HO2 HBr HOr hcl hcz hA1 hA2 hA4 hA5 hw1 hw2
                    go_wp2
                    have HCa : Hid _ := HO3.out.cA (k := jj) HLn.out.2.2.2 hjj
                    have hcp : j ≤ cx ∧ cx ≤ 9223372036854775807 := HCa.out.cap
                    have HBaa : Hid (Below wqr.heap.size wqr (wqr.alloc (.cells #[] TBy)).drew) := made_belowD wqr TBy
                    have hcl : jj + 1 ≤ cx := by omega
                    have hcz : ((jj + 1 : Nat) : Int) ≤ (cx : Int) := by omega
                    have hA1 : jj ≤ cx := by omega
                    have hA2 : (jj : Int) ≤ (cx : Int) := by omega
                    have hA4 : j ≤ cx := by omega
                    have hA5 : (j : Int) ≤ (cx : Int) := by omega
                    have hw1 := wrap_nj j jj (by omega) (by omega)
                    have hw2 := wrap_nj cx jj (by omega) (by omega)
                    go_region_held3 (fun _ => True) (exact trivial) (first | (refine step_append_own (by rfl) (.tmp 209) (.tmp 212) 39 (by rfl) wqr.heap.size TBy iy _ 1 24 Try.underlying39 hy0 hy1 hy2 hy3 rfl (by decide) (.slice (some ⟨wqr.heap.size, 0, none⟩) 0 0) 0 [] (by rfl) (made_rowD wqr TBy 1) ⟨ga, 0, none⟩ jj cx ((As.take jj).flatMap (fun x => [ab x])) (by first | rfl | simp [Act.eval, Act.put]) HCa.out.la (HCa.out.ca _ HBaa.out) HCa.out.oa (by unfold maxLen; omega) (by omega) HBaa.out.size jj (Nat.zero_add _) _ (List.nil_append _) ?_; intro poa pca wpa hop1 hgp1; have HBr : Hid (Below wqr.heap.size wqr wpa) := below_any HBaa.out hgp1; have HOr : Hid (wpa.ownsRow wqr.heap.size TBy 1 (.slice poa jj pca) jj ((As.take jj).flatMap (fun x => [ab x]))) := hop1; clear hop1 hgp1) | (refine step_append_opt (by rfl) (.tmp 213) (.tmp 217) 39 (by rfl) wqr.heap.size TBy iy _ 1 24 Try.underlying39 hy0 hy1 hy2 hy3 rfl (by decide) (.slice poa jj pca) jj _ (by rfl) HOr.out (if cx = jj + 1 then some ⟨ga, 0, none⟩ else some ⟨ga, jj + 1, none⟩) (j - (jj + 1)) (cx - (jj + 1)) ((As.drop (jj + 1)).flatMap (fun x => [ab x])) (by first | rfl | simp [Act.eval, Act.put]) HCa.out.lb (HCa.out.opt1 hjj _ HBr.out) HCa.out.ob (by unfold maxLen; omega) (by omega) HBr.out.size (jj + (j - (jj + 1))) rfl _ rfl ?_; intro na ma wqa hop2 hgp2; have HO4 : Hid (Ow w wqa wr.heap.size (.cells #[.int .i64 3, .int .i64 o.id, .int .u16 o.rq.fl, .int .u16 o.rq.ty, .int .u64 o.rq.ck, .int .u64 o.rq.off, .int .u64 o.rq.len, .slice da n1 dc, .slice aa n2 ac] 46 (0, 0)) F b bm V (takeS S o.id) (.slice ni (jj + (j - (jj + 1))) mi) (.slice nq (jj + (j - (jj + 1))) mq) (.slice nr (jj + (j - (jj + 1))) mr) (.slice na (jj + (j - (jj + 1))) ma) D (Is.take jj ++ Is.drop (jj + 1)) (Qs.take jj ++ Qs.drop (jj + 1)) (Rs.take jj ++ Rs.drop (jj + 1)) (As.take jj ++ As.drop (jj + 1))) := HO3.out.nA HLn.out.2.2.2 hjj (below_app2 HBr.out HOr.out hgp2) hop2; clear hop2 hgp2))
                    generalize (if cx = jj + 1 then some ⟨ga, 0, none⟩ else some ⟨ga, jj + 1, none⟩ : Option Addr) = zza
                    clear HCa hcp HBaa HO3 HBr HOr hcl hcz hA1 hA2 hA4 hA5 hw1 hw2
                    go_wp2
                    go_meet
                    exact ⟨F, V, takeS S o.id, D, _, _, _, _, rfl, HO4.out.on, by have := HSa.out.take HSk.out HE.out; rw [HId.out] at this; exact this, HMo.out, by have := HLa.out; show S.last ≤ _; omega, HO4.out.lo, HO4.out.be⟩
            by_cases hk4 : kd = 4
            · clear hk1 hk2 hk3
              as_aux_lemma =>
                subst hk4
                have HCl := clear_any HOw.out.on.t
                rw [HNL.out] at HCl
                go_wp2_with fail
                refine Calls.mono HCl ?_
                rintro r w7 ⟨rfl, ha7⟩
                have HO7 : Hid (On w7 F b bm V (clrS S) (.slice none 0 0) (.slice none 0 0) (.slice none 0 0) (.slice none 0 0) (fun _ => False) [] [] [] []) := ⟨ha7.rt, ⟨rfl, .inl ⟨rfl, rfl⟩⟩, ⟨rfl, .inl ⟨rfl, rfl⟩⟩, ⟨rfl, .inl ⟨rfl, rfl⟩⟩, ⟨rfl, .inl ⟨rfl, rfl⟩⟩, by simp, by simp, by simp, fun g _ => by simp [Value.ownBlock]⟩
                have HB7 : Hid (Below w.heap.size w w7) := (HOw.out.actT ha7).be
                clear ha7 HCl HOw
                go_wp2
                go_meet
                exact ⟨F, V, clrS S, _, [], [], [], [], rfl, HO7.out, Same.clr S, HMo.out, by have := HLa.out; show S.last ≤ _; omega, fun g hg => by simp [Value.ownBlock] at hg, HB7.out⟩
            as_aux_lemma =>
              go_wp2
              go_meet
              exact ⟨F, V, S, D, Is, Qs, Rs, As, rfl, HOw.out.on, HSa.out, HMo.out, by have := HLa.out; omega, HOw.out.lo, HOw.out.be⟩
          case rest =>
            as_aux_lemma =>
              obtain ⟨F, V, S, D, Is, Qs, Rs, As, rfl, HC⟩ := hcut
              obtain ⟨j, hj⟩ : ∃ n, S.L.length = n := ⟨_, rfl⟩
              obtain ⟨ai, ci, aq, cq, ar, cr, ax, cx, rfl, rfl, rfl, rfl⟩ := HC.out.1.forms HC.out.2.1 hj
              have HLn : Hid _ := HC.out.2.1.lens hj
              have HNL : Hid _ := hj
              have hl64 : j ≤ 64 := by have := HC.out.1.t.ok.len; have := HC.out.1.t.ok.m2; omega
              obtain ⟨HO2, HSa, HMo, HLa, HLV, HBw⟩ : Hid (On wc F b bm V S (.slice ai j ci) (.slice aq j cq) (.slice ar j cr) (.slice ax j cx) D Is Qs Rs As) ∧ Hid (Same S Is Qs Rs As) ∧ Hid (S.most = m) ∧ Hid (S.last ≤ k + 1) ∧ Hid (LoV w.heap.size (.slice ai j ci) (.slice aq j cq) (.slice ar j cr) (.slice ax j cx)) ∧ Hid (Below w.heap.size w wc) := ⟨HC.out.1, HC.out.2.1, HC.out.2.2.1, HC.out.2.2.2.1, HC.out.2.2.2.2.1, HC.out.2.2.2.2.2⟩
              clear HC hj
              have HLen : Hid _ := len_any HO2.out.t
              rw [HNL.out] at HLen
              go_wp2_with fail
              refine Calls.mono HLen.out ?_
              rintro r w8 ⟨rfl, hw⟩
              rw [hw]; clear hw w8
              go_wp2
              go_loopw [23] (fun i wx => ∃ t : Nat, t ≤ j ∧ i = .int .i64 t ∧ Hid (Below wc.heap.size wc wx)) (fun i _ => j - (intOf i).toNat)
              case atStart => exact ⟨0, Nat.zero_le _, rfl, Below.refl _ _⟩
              case round =>
                obtain ⟨t, ht, rfl, HJ⟩ := hrel
                by_cases htl : t < j
                · obtain ⟨e, he⟩ : ∃ e, S.L[t]? = some e := ⟨_, List.getElem?_eq_getElem (by rw [HNL.out]; exact htl)⟩
                  have HOx : Hid _ := HO2.out.later HJ.out
                  obtain ⟨gi, gq, gr, ga, qd, qe, qa, qb, rfl, rfl, rfl, rfl, ci0, hq0, cr0, ca0, hfd, hfa, li, lq, lr, la⟩ := HOx.out.at HSa.out HNL.out t e he
                  have hem := List.mem_of_getElem? he
                  obtain ⟨m1, hm1'⟩ : ∃ n, e.rq.data.length = n := ⟨_, rfl⟩
                  obtain ⟨m2, hm2'⟩ : ∃ n, e.an.length = n := ⟨_, rfl⟩
                  have HM1 : Hid _ := hm1'
                  have HM2 : Hid _ := hm2'
                  have HG : Hid _ := get_yes HOx.out.t e hem
                  have HFd : Hid _ := hfd
                  have HFa : Hid _ := hfa
                  have HQ0 : Hid _ := hq0
                  have HCa : Hid _ := ca0
                  have HLi : Hid (gi < wr.heap.size ∧ gq < wr.heap.size ∧ gr < wr.heap.size ∧ ga < wr.heap.size) := ⟨li, lq, lr, la⟩
                  have htz : (t : Int) < (j : Int) := by omega
                  have htn : ¬ (t : Int) < 0 := by omega
                  clear he hfd hfa hq0 ca0 li lq lr la hem hm1' hm2'
                  go_wp2_with fail
                  refine Calls.mono HG.out ?_
                  rintro r5 w5 ⟨xd, xc, xa, xb, rfl, hov, hb5⟩
                  have H5 : Hid _ := oneEcl e xd xa xc xb
                  have HN5 : Hid _ := row_new w5 #[.int .i64 0, .int .u16 0, .int .u16 0, .int .u64 0, .int .u64 0, .int .u64 0, .slice none 0 0, .bool false, .slice none 0 0] (ecl e xd xc xa xb).toArray
                  have HBx5 : Hid _ := mkb1 w5 #[.int .i64 0, .int .u16 0, .int .u16 0, .int .u64 0, .int .u64 0, .int .u64 0, .slice none 0 0, .bool false, .slice none 0 0] TEn
                  have HOv : Hid _ := hov
                  have HB5 : Hid _ := hb5
                  simp only [ecl, HM1.out, HM2.out] at H5 HN5 ⊢
                  clear hov hb5 HG
                  go_wp2_with (first | (refine wpList_store_row rfl TEn _ _ rfl w5.heap.size _ rfl rfl TEn _ HBx5.out.a infoEn rfl H5.out ?_) | fail)
                  have HB6 : Hid (Below wr.heap.size wr ((w5.alloc (.cells #[.int .i64 0, .int .u16 0, .int .u16 0, .int .u64 0, .int .u64 0, .int .u64 0, .slice none 0 0, .bool false, .slice none 0 0] TEn)).setRow w5.heap.size #[.int .i64 e.id, .int .u16 e.rq.fl, .int .u16 e.rq.ty, .int .u64 e.rq.ck, .int .u64 e.rq.off, .int .u64 e.rq.len, .slice xd m1 xc, .bool e.rd, .slice xa m2 xb])) := HB5.out.trans (HN5.out.1.mono HB5.out.size)
                  have HR6 : Hid _ := HN5.out.2
                  have HOv6 : Hid _ := HOv.out.later HN5.out.1
                  generalize ((w5.alloc (.cells #[.int .i64 0, .int .u16 0, .int .u16 0, .int .u64 0, .int .u64 0, .int .u64 0, .slice none 0 0, .bool false, .slice none 0 0] TEn)).setRow w5.heap.size #[.int .i64 e.id, .int .u16 e.rq.fl, .int .u16 e.rq.ty, .int .u64 e.rq.ck, .int .u64 e.rq.off, .int .u64 e.rq.len, .slice xd m1 xc, .bool e.rd, .slice xa m2 xb]) = W6 at *
                  have HFx : Hid (∀ X, Below W6.heap.size W6 X → (X.cell? ⟨w5.heap.size, 0, none⟩ = some (.int .i64 e.id) ∧ X.cell? ⟨w5.heap.size, 1, none⟩ = some (.int .u16 e.rq.fl) ∧ X.cell? ⟨w5.heap.size, 2, none⟩ = some (.int .u16 e.rq.ty) ∧ X.cell? ⟨w5.heap.size, 3, none⟩ = some (.int .u64 e.rq.ck) ∧ X.cell? ⟨w5.heap.size, 4, none⟩ = some (.int .u64 e.rq.off) ∧ X.cell? ⟨w5.heap.size, 5, none⟩ = some (.int .u64 e.rq.len) ∧ X.cell? ⟨w5.heap.size, 6, none⟩ = some (.slice xd m1 xc) ∧ X.cell? ⟨w5.heap.size, 7, none⟩ = some (.bool e.rd) ∧ X.cell? ⟨w5.heap.size, 8, none⟩ = some (.slice xa m2 xb) ∧ X.cell? ⟨gq, t * 6, none⟩ = some (.int .u16 e.rq.fl) ∧ X.cell? ⟨gq, t * 6 + 1, none⟩ = some (.int .u16 e.rq.ty) ∧ X.cell? ⟨gq, t * 6 + 2, none⟩ = some (.int .u64 e.rq.ck) ∧ X.cell? ⟨gq, t * 6 + 3, none⟩ = some (.int .u64 e.rq.off) ∧ X.cell? ⟨gq, t * 6 + 4, none⟩ = some (.int .u64 e.rq.len) ∧ X.cell? ⟨gq, t * 6 + 5, none⟩ = some (.slice qd m1 qe) ∧ X.cell? ⟨gi, t, none⟩ = some (.int .i64 e.id) ∧ X.cell? ⟨gr, t, none⟩ = some (.bool e.rd) ∧ X.cell? ⟨ga, t, none⟩ = some (.slice qa m2 qb))) := fun X hX => by
                    have h1 := (hX.block _ (block_lt HR6.out)).trans HR6.out
                    have hbx : Below wr.heap.size wr X := HB6.out.trans (hX.mono HB6.out.size)
                    have h2 := range_same HQ0.out (hbx.block gq HLi.out.2.1)
                    simp only [rcl, HM1.out] at h2
                    have h3 := HCa.out
                    rw [HM2.out] at h3
                    exact ⟨(blk_at h1 0).trans rfl, (blk_at h1 1).trans rfl, (blk_at h1 2).trans rfl, (blk_at h1 3).trans rfl, (blk_at h1 4).trans rfl, (blk_at h1 5).trans rfl, (blk_at h1 6).trans rfl, (blk_at h1 7).trans rfl, (blk_at h1 8).trans rfl, h2 0 _ rfl, h2 1 _ rfl, h2 2 _ rfl, h2 3 _ rfl, h2 4 _ rfl, h2 5 _ rfl, (cell_block (hbx.block gi HLi.out.1)).trans ci0, (cell_block (hbx.block gr HLi.out.2.2.1)).trans cr0, (cell_block (hbx.block ga HLi.out.2.2.2)).trans h3⟩
                  obtain ⟨x0, x1, x2, x3, x4, x5, x6, x7, x8, q0, q1, q2, q3, q4, q5, y0, y1, y2⟩ := HFx.out W6 (Below.refl _ _)
                  have HSR : Hid (Calls Try.prog 25 #[.agg #[.int .u16 e.rq.fl, .int .u16 e.rq.ty, .int .u64 e.rq.ck, .int .u64 e.rq.off, .int .u64 e.rq.len, .slice xd m1 xc], .agg #[.int .u16 e.rq.fl, .int .u16 e.rq.ty, .int .u64 e.rq.ck, .int .u64 e.rq.off, .int .u64 e.rq.len, .slice qd m1 qe]] W6.drew fun r w' => r = .returned (.bool true) ∧ Below W6.heap.size W6 w') := by
                    have hbd : Below W6.heap.size W6 W6.drew := ⟨rfl, rfl, rfl, Nat.le_refl _, fun _ _ => rfl⟩
                    refine (sameReq e.rq m1 xd qd xc qe W6.drew ((ov_rows HOv6.out).1.later hbd) (HFd.out.row.later (HB6.out.trans (hbd.mono HB6.out.size))) HM1).mono ?_
                    rintro r w' ⟨rfl, hb⟩
                    exact ⟨rfl, hbd.trans hb⟩
                  go_region_held3 (fun w' => (w'.cell? ⟨w5.heap.size, 0, none⟩ = some (.int .i64 e.id) ∧ w'.cell? ⟨w5.heap.size, 1, none⟩ = some (.int .u16 e.rq.fl) ∧ w'.cell? ⟨w5.heap.size, 2, none⟩ = some (.int .u16 e.rq.ty) ∧ w'.cell? ⟨w5.heap.size, 3, none⟩ = some (.int .u64 e.rq.ck) ∧ w'.cell? ⟨w5.heap.size, 4, none⟩ = some (.int .u64 e.rq.off) ∧ w'.cell? ⟨w5.heap.size, 5, none⟩ = some (.int .u64 e.rq.len) ∧ w'.cell? ⟨w5.heap.size, 6, none⟩ = some (.slice xd m1 xc) ∧ w'.cell? ⟨w5.heap.size, 7, none⟩ = some (.bool e.rd) ∧ w'.cell? ⟨w5.heap.size, 8, none⟩ = some (.slice xa m2 xb) ∧ w'.cell? ⟨gq, t * 6, none⟩ = some (.int .u16 e.rq.fl) ∧ w'.cell? ⟨gq, t * 6 + 1, none⟩ = some (.int .u16 e.rq.ty) ∧ w'.cell? ⟨gq, t * 6 + 2, none⟩ = some (.int .u64 e.rq.ck) ∧ w'.cell? ⟨gq, t * 6 + 3, none⟩ = some (.int .u64 e.rq.off) ∧ w'.cell? ⟨gq, t * 6 + 4, none⟩ = some (.int .u64 e.rq.len) ∧ w'.cell? ⟨gq, t * 6 + 5, none⟩ = some (.slice qd m1 qe) ∧ w'.cell? ⟨gi, t, none⟩ = some (.int .i64 e.id) ∧ w'.cell? ⟨gr, t, none⟩ = some (.bool e.rd) ∧ w'.cell? ⟨ga, t, none⟩ = some (.slice qa m2 qb))) (first | exact HFx.out _ HB9.out | go_keep) (first | (go_at_call 25; refine Calls.mono HSR.out ?_; rintro r w9 ⟨rfl, hb9⟩; have HB9 : Hid _ := hb9; clear hb9) | fail)
                  obtain ⟨z0, z1, z2, z3, z4, z5, z6, z7, z8, p0, p1, p2, p3, p4, p5, s0, s1, s2⟩ := HFx.out w9 HB9.out
                  have HSM : Hid (∀ q, Calls Try.prog 22 #[.slice xa m2 xb, .slice qa m2 qb] (w9.drewN q) fun e w' => e = .returned (.bool true) ∧ ∃ q', w' = (w9.drewN q).drewN q') := fun q => by
                    have hbq : Below W6.heap.size W6 (w9.drewN q) := HB9.out.trans ((below_drewN _ q).mono HB9.out.size)
                    have := same_any xa qa xb qb e.an e.an (w9.drewN q) ((ov_rows HOv6.out).2.later hbq) (HFa.out.row.later (HB6.out.trans (hbq.mono HB6.out.size)))
                    rw [HM2.out] at this
                    simp only [decide_true] at this
                    exact this
                  have HBe : Hid (∀ q, Below wc.heap.size wc (w9.drewN q)) := fun q => HJ.out.trans ((HB6.out.trans ((HB9.out.trans ((below_drewN _ q).mono HB9.out.size)).mono HB6.out.size)).mono HJ.out.size)
                  clear x0 x1 x2 x3 x4 x5 x6 x7 x8 q0 q1 q2 q3 q4 q5 y0 y1 y2 HSR HFx HOv HOv6 HN5 HBx5 H5 HFd HFa HQ0 HCa
                  go_wp2
                  go_quiet (first | (go_at_call 22; exact Calls.quiet_of (HSM.out _)) | fail)
                  go_wp2
                  go_roundw
                  case rel => exact ⟨t + 1, by omega, by go_num, HBe.out _⟩
                  case measure => simp [intOf]; omega
                · have HOe : Hid _ := HO2.out.later HJ.out
                  have HBo : Hid (Below w.heap.size w wr) := HBw.out.trans (HJ.out.mono HBw.out.size)
                  clear HO2 HJ HBw
                  go_wp2
                  go_roundw
                  case rel => exact ⟨k + 1, by omega, by go_num, _, _, S, _, Is, Qs, Rs, As, rfl, HOe.out, HSa.out, HMo.out, HLa.out, HLV.out, HBo.out⟩
                  case measure => simp [intOf]; omega
    · have HR3 : Hid _ := HI.out.2.2.2.2.2
      clear HI
      go_wp2
      go_ret
      exact ⟨rfl, HR3.out⟩
end Go.Proofs.Ytoabigjajnikcaa.O
