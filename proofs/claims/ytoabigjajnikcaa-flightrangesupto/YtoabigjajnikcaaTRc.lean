import Derived.Test.YtoabigjajnikcaaTRf
import Derived.RangeFuncBox
import Derived.Deep.AppendLies
namespace Go.Proofs.Ytoabigjajnikcaa.X
open Go.RowKit Go.Maps Go.Proofs.Ytoabigjajnikcaa
attribute [local go_sem] Oper.semAt_some
set_option linter.unusedVariables false
set_option linter.unusedSimpArgs false
set_option maxRecDepth 100000

set_option maxHeartbeats 16000000 in
theorem ranges_any (w : World) (m : Nat) (hm1 : 1 ≤ m) (hm2 : m ≤ 64) (stop : Int) (ao : Option Addr) (n cap : Nat) (os : List OpF) (HN : Hid (os.length = n)) (hs : Scr w w.heap.size ao os) : Calls Try.prog 8 #[.int .i64 m, .slice ao n cap, .int .i64 stop] w fun r w' => r = .returned (.bool true) ∧ Below w.heap.size w w' := by
  have HS : Hid _ := hs
  have hnl : n ≤ 1099511627776 := by rw [← HN.out]; exact hs.len
  clear hs
  refine (callsIn_wide (n := 4)).1 ?_
  have f0 : Fence.wide.fn 8 := trivial
  refine callsIn_of_wp_marks Try.func8 rfl f0 ?_ rfl
  simp only [Try.ntmps8, List.size_toArray, List.length_cons, List.length_nil, Nat.reduceAdd, Nat.reduceSub, Array.replicate_succ, Array.replicate_zero, List.push_toArray, List.append_toArray, List.nil_append, List.cons_append]
  refine wpIn_wide.2 ?_
  go_wp2_with fail
  refine Calls.mono (made_any _ m hm1 hm2) ?_
  rintro r w1 ⟨b, p, rfl, bm, hpr, hb1⟩
  have hsz1 : w.heap.size + 1 ≤ w1.heap.size := by have := hb1.size; rw [size1] at this; exact this
  have HP1 : Hid _ := hpr.p2
  rw [size1] at HP1
  have HS1 : Hid (w1.heap[w.heap.size]? = some (.cells #[.int .i64 stop] 3 (0, 0))) := (hb1.block _ (by rw [size1]; omega)).trans (heap_new w _)
  have HB1 : Hid (Below w.heap.size w w1) := (below1 w _).trans (hb1.mono (by rw [size1]; omega))
  have HX1 : Hid _ := mkb2 w1 #[.pointer (some ⟨b, 0, none⟩)] #[.pointer (some ⟨p, 0, none⟩)] 22 23
  clear hpr hb1
  go_wp2_with fail
  refine Calls.mono (heads_any _) ?_
  rintro r w2 ⟨rfl, hb2⟩
  have HX2 : Hid _ := HX1.out.later hb2
  have HC2 : Hid (Ck w2 w.heap.size (fun _ => False) (fun _ => False) b bm p (fun _ => undef) (.slice none 0 0) (fun _ => undef) (newS m) (newS m) [(w.heap.size, .cells #[.int .i64 stop] 3 (0, 0)), (w1.heap.size, .cells #[.pointer (some ⟨b, 0, none⟩)] 22 (0, 0)), (w1.heap.size + 1, .cells #[.pointer (some ⟨p, 0, none⟩)] 23 (0, 0))]) := by
    refine ⟨(HP1.out.later HX2.out.bel).mono (Nat.le_succ _), fun x hx => ?_⟩
    simp only [List.mem_cons, List.not_mem_nil, or_false] at hx
    rcases hx with rfl | rfl | rfl
    · exact ⟨(HX2.out.bel.block _ (by show w.heap.size < _; omega)).trans HS1.out, fun e => by have := HP1.out.lo _ e; simp at this; omega⟩
    · exact ⟨HX2.out.a, fun e => by
        rcases e with e | e
        · have := HP1.out.t.ltf _ e; simp at this
        · have := HP1.out.r.ltf _ e; simp at this⟩
    · exact ⟨HX2.out.b, fun e => by
        rcases e with e | e
        · have := HP1.out.t.ltf _ e; simp at this; omega
        · have := HP1.out.r.ltf _ e; simp at this; omega⟩
  have HB2 : Hid (Below w.heap.size w w2) := HB1.out.trans (HX2.out.bel.mono HB1.out.size)
  have c1 : w2.cell? ⟨w1.heap.size, 0, none⟩ = some (.pointer (some ⟨b, 0, none⟩)) := (blk_at HX2.out.a 0).trans rfl
  clear hb2 HP1 HS1 HB1 HX1 HX2
  go_wp2
  clear c1
  go_loopw [10] (fun i wr => ∃ k : Nat, k ≤ n ∧ i = .int .i64 (k : Int) ∧ ∃ (F G : Nat → Prop) (V U : Int → Value) (v : Value) (S : St), Hid (Ck wr w.heap.size F G b bm p V v U S S [(w.heap.size, .cells #[.int .i64 stop] 3 (0, 0)), (w1.heap.size, .cells #[.pointer (some ⟨b, 0, none⟩)] 22 (0, 0)), (w1.heap.size + 1, .cells #[.pointer (some ⟨p, 0, none⟩)] 23 (0, 0))] ∧ S.last ≤ k ∧ Below w.heap.size w wr)) (fun i _ => n - (intOf i).toNat)
  case atStart => exact ⟨0, Nat.zero_le _, rfl, _, _, _, _, _, _, HC2.out, Nat.le_refl _, HB2.out⟩
  case round =>
    obtain ⟨k, hk, rfl, F, G, V, U, v, S, HI⟩ := hrel
    by_cases hlt : k < n
    · obtain ⟨o, hko⟩ : ∃ o, os[k]? = some o := ⟨_, List.getElem?_eq_getElem (by rw [HN.out]; exact hlt)⟩
      obtain ⟨g, off, da, dc, aa, ac, rfl, hg, hr, hop⟩ := (HS.out.below HI.out.2.2).at_ k o hko
      obtain ⟨n1, hn1⟩ : ∃ n, o.rq.data.length = n := ⟨_, rfl⟩
      obtain ⟨n2, hn2⟩ : ∃ n, o.an.length = n := ⟨_, rfl⟩
      have hbd : Below wr.heap.size wr wr.drew := ⟨rfl, rfl, rfl, Nat.le_refl _, fun _ _ => rfl⟩
      have HC : Hid _ := changes_any (HI.out.1.later hbd) (by have := HI.out.2.1; omega) o n1 n2 da aa dc ac (hop.below (hbd.mono (by have := HI.out.2.2.size; omega))) hn1 hn2
      rw [hn1, hn2] at hr
      have HF : Hid (∀ w', Below w.heap.size wr w' → w'.rangeAt g (off + k * 9) (opl o n1 n2 da dc aa ac).toList) := fun w' hb => range_same hr (hb.block g hg)
      have hkz : (k : Int) < (n : Int) := by omega
      have hkn : ¬ (k : Int) < 0 := by omega
      have x0 : wr.cell? ⟨g, off + k * 9, none⟩ = some (.int .i64 o.kind) := hr 0 _ rfl
      have x1 : wr.cell? ⟨g, off + k * 9 + 1, none⟩ = some (.int .i64 o.id) := hr 1 _ rfl
      have x2 : wr.cell? ⟨g, off + k * 9 + 2, none⟩ = some (.int .u16 o.rq.fl) := hr 2 _ rfl
      have x3 : wr.cell? ⟨g, off + k * 9 + 3, none⟩ = some (.int .u16 o.rq.ty) := hr 3 _ rfl
      have x4 : wr.cell? ⟨g, off + k * 9 + 4, none⟩ = some (.int .u64 o.rq.ck) := hr 4 _ rfl
      have x5 : wr.cell? ⟨g, off + k * 9 + 5, none⟩ = some (.int .u64 o.rq.off) := hr 5 _ rfl
      have x6 : wr.cell? ⟨g, off + k * 9 + 6, none⟩ = some (.int .u64 o.rq.len) := hr 6 _ rfl
      have x7 : wr.cell? ⟨g, off + k * 9 + 7, none⟩ = some (.slice da n1 dc) := hr 7 _ rfl
      have x8 : wr.cell? ⟨g, off + k * 9 + 8, none⟩ = some (.slice aa n2 ac) := hr 8 _ rfl
      have t0 : wr.cell? ⟨w1.heap.size, 0, none⟩ = some (.pointer (some ⟨b, 0, none⟩)) := (blk_at (HI.out.1.at 1 rfl) 0).trans rfl
      have p0 : wr.cell? ⟨w1.heap.size + 1, 0, none⟩ = some (.pointer (some ⟨p, 0, none⟩)) := (blk_at (HI.out.1.at 2 rfl) 0).trans rfl
      clear hko hr hop hn1 hn2 hg hbd
      simp only [opl] at HC HF
      have HK : Hid (∀ w', Step wr.drew w' w.heap.size b bm p S [(w.heap.size, .cells #[.int .i64 stop] 3 (0, 0)), (w1.heap.size, .cells #[.pointer (some ⟨b, 0, none⟩)] 22 (0, 0)), (w1.heap.size + 1, .cells #[.pointer (some ⟨p, 0, none⟩)] 23 (0, 0))] → (w'.cell? ⟨w1.heap.size, 0, none⟩ = some (.pointer (some ⟨b, 0, none⟩)) ∧ w'.cell? ⟨w1.heap.size + 1, 0, none⟩ = some (.pointer (some ⟨p, 0, none⟩)) ∧ w'.cell? ⟨g, off + k * 9, none⟩ = some (.int .i64 o.kind) ∧ w'.cell? ⟨g, off + k * 9 + 1, none⟩ = some (.int .i64 o.id) ∧ w'.cell? ⟨g, off + k * 9 + 2, none⟩ = some (.int .u16 o.rq.fl) ∧ w'.cell? ⟨g, off + k * 9 + 3, none⟩ = some (.int .u16 o.rq.ty) ∧ w'.cell? ⟨g, off + k * 9 + 4, none⟩ = some (.int .u64 o.rq.ck) ∧ w'.cell? ⟨g, off + k * 9 + 5, none⟩ = some (.int .u64 o.rq.off) ∧ w'.cell? ⟨g, off + k * 9 + 6, none⟩ = some (.int .u64 o.rq.len) ∧ w'.cell? ⟨g, off + k * 9 + 7, none⟩ = some (.slice da n1 dc) ∧ w'.cell? ⟨g, off + k * 9 + 8, none⟩ = some (.slice aa n2 ac))) := fun w' hst => by
        obtain ⟨F', G', V', v', U', S', hc, _, hb⟩ := hst
        have hb' : Below w.heap.size wr w' := ⟨hb.os, hb.tape, hb.output, hb.size, hb.block⟩
        have hr := HF.out w' hb'
        exact ⟨(blk_at (hc.at 1 rfl) 0).trans rfl, (blk_at (hc.at 2 rfl) 0).trans rfl, hr 0 _ rfl, hr 1 _ rfl, hr 2 _ rfl, hr 3 _ rfl, hr 4 _ rfl, hr 5 _ rfl, hr 6 _ rfl, hr 7 _ rfl, hr 8 _ rfl⟩
      go_wp2
      go_region_held3 (fun w' => (w'.cell? ⟨w1.heap.size, 0, none⟩ = some (.pointer (some ⟨b, 0, none⟩)) ∧ w'.cell? ⟨w1.heap.size + 1, 0, none⟩ = some (.pointer (some ⟨p, 0, none⟩)) ∧ w'.cell? ⟨g, off + k * 9, none⟩ = some (.int .i64 o.kind) ∧ w'.cell? ⟨g, off + k * 9 + 1, none⟩ = some (.int .i64 o.id) ∧ w'.cell? ⟨g, off + k * 9 + 2, none⟩ = some (.int .u16 o.rq.fl) ∧ w'.cell? ⟨g, off + k * 9 + 3, none⟩ = some (.int .u16 o.rq.ty) ∧ w'.cell? ⟨g, off + k * 9 + 4, none⟩ = some (.int .u64 o.rq.ck) ∧ w'.cell? ⟨g, off + k * 9 + 5, none⟩ = some (.int .u64 o.rq.off) ∧ w'.cell? ⟨g, off + k * 9 + 6, none⟩ = some (.int .u64 o.rq.len) ∧ w'.cell? ⟨g, off + k * 9 + 7, none⟩ = some (.slice da n1 dc) ∧ w'.cell? ⟨g, off + k * 9 + 8, none⟩ = some (.slice aa n2 ac))) (first | exact HK.out _ HB9.out | go_keep) (first | (go_at_call 26; refine Calls.mono HC.out ?_; rintro r w9 ⟨rfl, hb9⟩; have HB9 : Hid _ := hb9; clear hb9) | fail)
      obtain ⟨F', G', V', v', U', S', hc3, hl3, hb3⟩ := HB9.out
      have HI3 : Hid (Ck w9 w.heap.size F' G' b bm p V' v' U' S' S' [(w.heap.size, .cells #[.int .i64 stop] 3 (0, 0)), (w1.heap.size, .cells #[.pointer (some ⟨b, 0, none⟩)] 22 (0, 0)), (w1.heap.size + 1, .cells #[.pointer (some ⟨p, 0, none⟩)] 23 (0, 0))] ∧ S'.last ≤ k + 1 ∧ Below w.heap.size w w9) := ⟨hc3, by have := HI.out.2.1; omega, HI.out.2.2.trans ⟨hb3.os, hb3.tape, hb3.output, hb3.size, hb3.block⟩⟩
      clear hc3 hl3 hb3 HC HF HI HB9
      go_wp2
      go_roundw
      case rel => exact ⟨k + 1, by omega, by go_num, F', G', V', U', v', S', HI3⟩
      case measure => simp [intOf]; omega
    · have HCk : Hid _ := HI.out.1
      have HB3 : Hid _ := HI.out.2.2
      obtain ⟨nL, hnL⟩ : ∃ n, S.L.length = n := ⟨_, rfl⟩
      have HNL : Hid _ := hnL
      have hl64 : nL ≤ 64 := by have := HI.out.1.pr.t.ok.len; have := HI.out.1.pr.t.ok.m2; omega
      have t0 : wr.cell? ⟨w1.heap.size, 0, none⟩ = some (.pointer (some ⟨b, 0, none⟩)) := (blk_at (HI.out.1.at 1 rfl) 0).trans rfl
      have p0 : wr.cell? ⟨w1.heap.size + 1, 0, none⟩ = some (.pointer (some ⟨p, 0, none⟩)) := (blk_at (HI.out.1.at 2 rfl) 0).trans rfl
      have q2 : wr.cell? ⟨p, 2, none⟩ = some v := (HI.out.1.pr.r.c 2).trans rfl
      have HRow : Hid (wr.ownsRow 0 TEn 9 v nL (S.L.flatMap fun e => vcl (U e.id))) := by rw [← hnL]; exact HI.out.1.pr.r.row
      have HOne : Hid (∀ z ∈ S.L.flatMap (fun e => vcl (U e.id)), z.oneCell' = true) := fun z hz => by
        obtain ⟨e, he, hz⟩ := List.mem_flatMap.1 hz
        exact one_vcl (HCk.out.pr.r.pv e he) z hz
      have qs : ∀ (w : World) (f : Fn) (a b : Array Value), (binOp .eql 65 (.func f a b) .nilFunc).run Try.prog w = .ok (.bool false) w := fun _ _ _ _ => rfl
      clear HI hnL
      go_wp2_with (first | (at_builtin; refine wpList_want _ rfl _ _ rfl rfl v nL _ rfl HRow.out HOne.out hl64 ?_; intro aw cw w4 ho4 hb4; have HO4 : Hid _ := ho4; have HB4 : Hid _ := hb4; have t4 : w4.cell? ⟨w1.heap.size, 0, none⟩ = some (.pointer (some ⟨b, 0, none⟩)) := (blk_at ((HCk.out.later hb4).at 1 rfl) 0).trans rfl; clear ho4 hb4 t0 p0 q2) | (go_at_call 27; refine Calls.mono (all_fn _ _) ?_; rintro e w' ⟨rfl, rfl⟩) | fail)
      obtain ⟨W0, hW0⟩ : ∃ W0, W0 = (w4.alloc (.cells #[.pointer (some ⟨b, 0, none⟩)] 22)).alloc (.cells #[.slice none 0 0] TEns) := ⟨_, rfl⟩
      have HX0 : Hid (Bx2 w4 W0 #[.pointer (some ⟨b, 0, none⟩)] #[.slice none 0 0] 22 TEns) := by show Bx2 _ _ _ _ _ _; rw [hW0]; exact mkb2 w4 _ _ _ _
      have hs0 : W0.heap.size = w4.heap.size + 2 := by rw [hW0]; simp
      have hw4 : wr.heap.size ≤ w4.heap.size := HB4.out.size
      have hwr : w.heap.size ≤ wr.heap.size := HB3.out.size
      have HC0 : Hid _ := (HCk.out.later HB4.out).later HX0.out.bel
      have HBW : Hid (Below w.heap.size w W0) := HB3.out.trans ((HB4.out.trans (HX0.out.bel.mono HB4.out.size)).mono HB3.out.size)
      have hBx : Boxed W0 (w4.heap.size + 1) TEns (.slice none 0 0) := HX0.out.b
      have Hfp : Hid (∀ g, fpT b bm F g ∨ fpR p v G g → g < wr.heap.size) := fun g hg => hg.elim (fun e => HCk.out.pr.t.ltf g e) (fun e => HCk.out.pr.r.ltf g e)
      have hBn : ¬ (fpT b bm F (w4.heap.size + 1) ∨ fpR p v G (w4.heap.size + 1)) := fun e => by have := Hfp.out _ e; omega
      have hpl : p < wr.heap.size := HCk.out.pr.r.ltp
      have HFine : Hid (∀ g, g < W0.heap.size → g ≠ w4.heap.size + 1 → ¬ (fpT b bm F g ∨ fpR p v G g) → FineR (w4.heap.size + 1) (W0.heap.size + 1) b bm p g W0) := fun g h1 h2 h3 => fine0 HC0.out.pr hBx h1 h2 h3
      have f2 : Fence.wide.fn 43 := trivial
      have hseq := seq_allW 3 (by omega) (keepsR (B := w4.heap.size + 1) (l := W0.heap.size + 1) (b := b) (bm := bm) (p := p)) (w := W0) (po := some ⟨b, 0, none⟩) (F := F) (V := V) S.L (fun W hW => sorted_any (HC0.out.pr.t.later hW)) ((blk_at HX0.out.a 0).trans rfl) (by omega) HC0.out.pr.t.pv HC0.out.pr.t.lt (by rw [HNL.out]; exact hl64) (fun W w1 k hb hsz hb2 hk hk2 => fineNew HC0.out.pr hBx hb hsz hb2 hk hk2) (fun g hg W hb hsz => fineLater (fineF HC0.out.pr hBx hBn hg) hb)
      rw [← hW0]
      clear hW0 HC2 HB2 qs t4
      obtain ⟨i0, hi0, hz0, hz1, hz2⟩ := info_parts infoE
      have HS0 : Hid _ := hs0
      have HLw : Hid (w.heap.size ≤ w4.heap.size + 1) := by show _ ≤ _; omega
      have HL1 : Hid (w1.heap.size + 1 < wr.heap.size) := block_lt (HCk.out.at 2 rfl)
      have HFl : Hid (b < wr.heap.size ∧ bm < wr.heap.size ∧ p < wr.heap.size) := ⟨HCk.out.pr.t.ltb, HCk.out.pr.t.ltm, HCk.out.pr.r.ltp⟩
      refine (wpIn_wide (n := 4)).1 ?_
      refine wpIn_rangeW rfl (by omega) (gf := 43) (lb := #[.pointer (some ⟨w4.heap.size, 0, none⟩)]) rfl f2 (enters_of Try.func43 (by kernel_rfl) rfl) hseq kpR_t (fun W r r' _ => kpR_put (by omega) (by omega) W _) (Below.refl _ _) (fun _ => rfl)
        (IR w.heap.size w W0 (w4.heap.size + 1) b bm p S stop) (IxR w.heap.size w W0 (w4.heap.size + 1) b bm p S stop (.exit 2)) (IR.ab (by omega) (by omega) (by omega)) (IxR.ab (by omega) (by omega) (by omega) _) ?start ?round ?done ?stop
      all_goals clear hseq
      case start =>
        refine ⟨⟨Nat.le_refl _, fun g hf => ⟨rfl, hf⟩⟩, ⟨F, G, V, v, U, .slice none 0 0, HC0.out.pr, hBx, ⟨⟨rfl, .inl ⟨rfl, rfl⟩⟩, by simp, by simp, by simp⟩, fun g hg => ?_⟩, by simp, by simp, HBW.out⟩
        have := Hfp.out g hg
        exact ⟨fun ⟨y, hy, _⟩ => by simp at hy, by simp [Value.ownBlock], by omega, by omega, by omega⟩
      case round =>
        rintro pre x Wp W hI hbW hV hlen ⟨rp, hrp⟩ ⟨r, hr⟩ hD
        obtain ⟨hKp, ⟨F1, G1, V1, v1, U1, vg, hRg⟩, hj, hlo, hBl⟩ := hI
        have hszp : W0.heap.size + 1 < Wp.heap.size := (Array.getElem?_eq_some_iff.1 hrp).1
        have hszW := hbW.size
        obtain ⟨ag, cg, rfl⟩ := owns_form9 hRg.tl.row
        have hfx : ∀ g, fpT b bm F1 g ∨ fpR p v1 G1 g → g < Wp.heap.size := fun g hg => hg.elim (fun e => hRg.p2.t.ltf g e) (fun e => hRg.p2.r.ltf g e)
        have hvg : ∀ g, (Value.slice ag pre.length cg).ownBlock = some g → g < Wp.heap.size := fun g hg => (row_typ hRg.tl.row g hg).1
        have HJ : Hid _ := hj
        have HLo : Hid _ := hlo
        have HPL : Hid (pre.length < 64) := by show pre.length < 64; have := HNL.out; omega
        have HX : Hid (W0.heap.size + 2 ≤ x.lo ∧ (∀ y ∈ pre, y.hi ≤ x.lo) ∧ S.L[pre.length]? = some x.e ∧ ∀ g, fpT b bm F1 g ∨ fpR p v1 G1 g → ¬ (x.lo ≤ g ∧ g < x.hi)) := ⟨by have := hV.new; omega, hV.v.ap, hV.v.at_, fun g hg e => by have := hfx g hg; have := hV.new; omega⟩
        have hb1 := below1 W (.cells #[.int .i64 x.e.id, .int .u16 x.e.rq.fl, .int .u16 x.e.rq.ty, .int .u64 x.e.rq.ck, .int .u64 x.e.rq.off, .int .u64 x.e.rq.len, .slice x.da x.e.rq.data.length x.dc, .bool x.e.rd, .slice x.aa x.e.an.length x.ac] TEn)
        obtain ⟨Z, hZ⟩ : ∃ Z : Loop → World, Z = fun r' => (W.alloc (.cells #[.int .i64 x.e.id, .int .u16 x.e.rq.fl, .int .u16 x.e.rq.ty, .int .u64 x.e.rq.ck, .int .u64 x.e.rq.off, .int .u64 x.e.rq.len, .slice x.da x.e.rq.data.length x.dc, .bool x.e.rd, .slice x.aa x.e.an.length x.ac] TEn)).putObj (W0.heap.size + 1) (.loop r') := ⟨_, rfl⟩
        have hr1 : (W.alloc (.cells #[.int .i64 x.e.id, .int .u16 x.e.rq.fl, .int .u16 x.e.rq.ty, .int .u64 x.e.rq.ck, .int .u64 x.e.rq.off, .int .u64 x.e.rq.len, .slice x.da x.e.rq.data.length x.dc, .bool x.e.rd, .slice x.aa x.e.an.length x.ac] TEn)).heap[W0.heap.size + 1]? = some (.loop r) := (hb1.block _ (by omega)).trans hr
        have HRg : Hid (∀ r', Rg (Z r') w.heap.size (w4.heap.size + 1) W0.heap.size b bm p F1 G1 V1 v1 U1 (drp S pre.length) (drp S pre.length) (.slice ag pre.length cg) pre) := fun r' => by rw [hZ]; exact (hRg.later (hbW.trans (hb1.mono hbW.size))).put hr1
        have HKp : Hid (∀ r', KpR (w4.heap.size + 1) (W0.heap.size + 1) b bm p W0 (Z r')) := fun r' => by rw [hZ]; exact kpR_t (kpR_t hKp (kpR_below hbW)) (kpR_t (kpR_below hb1) (kpR_put (by omega) (by have := HFl.out; omega) _ _))
        have HOk : Hid (∀ r', Ok1 (Z r') x) := fun r' => by
          rw [hZ]
          have nc : ∀ cs t fr, (W.alloc (.cells #[.int .i64 x.e.id, .int .u16 x.e.rq.fl, .int .u16 x.e.rq.ty, .int .u64 x.e.rq.ck, .int .u64 x.e.rq.off, .int .u64 x.e.rq.len, .slice x.da x.e.rq.data.length x.dc, .bool x.e.rd, .slice x.aa x.e.an.length x.ac] TEn)).heap[W0.heap.size + 1]? ≠ some (.cells cs t fr) := fun cs t fr h => by rw [hr1] at h; cases h
          exact (hV.v.ok.later hb1).same (by simp) (fun g cs _ _ hc => put_cells hc nc)
        have HDz : Hid (∀ r', (Z r').heap[W0.heap.size]? = some (.deferred (some [])) ∧ (Z r').heap[W0.heap.size + 1]? = some (.loop r') ∧ W.heap.size < (Z r').heap.size ∧ (Z r').heap[W.heap.size]? = some (.cells #[.int .i64 x.e.id, .int .u16 x.e.rq.fl, .int .u16 x.e.rq.ty, .int .u64 x.e.rq.ck, .int .u64 x.e.rq.off, .int .u64 x.e.rq.len, .slice x.da x.e.rq.data.length x.dc, .bool x.e.rd, .slice x.aa x.e.an.length x.ac] TEn (0, 0))) := fun r' => by
          rw [hZ]
          have h9 : (W.alloc (.cells #[.int .i64 x.e.id, .int .u16 x.e.rq.fl, .int .u16 x.e.rq.ty, .int .u64 x.e.rq.ck, .int .u64 x.e.rq.off, .int .u64 x.e.rq.len, .slice x.da x.e.rq.data.length x.dc, .bool x.e.rd, .slice x.aa x.e.an.length x.ac] TEn)).heap.size = W.heap.size + 1 := by simp
          refine ⟨(World.putObj_heap_other (by omega)).trans ((hb1.block _ (by omega)).trans hD), World.putObj_heap_same (by omega), by simp, (World.putObj_heap_other (by omega)).trans (heap_new W _)⟩
        have HBz : Hid (∀ r', Below w.heap.size w (Z r')) := fun r' => by
          rw [hZ]
          exact (hBl.trans ((hbW.trans (hb1.mono hbW.size)).mono (by omega))).trans ⟨rfl, rfl, rfl, by simp, fun k hk => World.putObj_heap_other (by omega)⟩
        have HBox : Hid (∀ r' X, KpR (w4.heap.size + 1) (W0.heap.size + 1) b bm p (Z r') X → X.cell? ⟨w.heap.size, 0, none⟩ = some (.int .i64 stop) ∧ X.cell? ⟨w1.heap.size, 0, none⟩ = some (.pointer (some ⟨b, 0, none⟩)) ∧ X.cell? ⟨w1.heap.size + 1, 0, none⟩ = some (.pointer (some ⟨p, 0, none⟩)) ∧ X.heap[W.heap.size]? = some (.cells #[.int .i64 x.e.id, .int .u16 x.e.rq.fl, .int .u16 x.e.rq.ty, .int .u64 x.e.rq.ck, .int .u64 x.e.rq.off, .int .u64 x.e.rq.len, .slice x.da x.e.rq.data.length x.dc, .bool x.e.rd, .slice x.aa x.e.an.length x.ac] TEn (0, 0))) := fun r' X hX => by
          have h1 := HL1.out
          have bx : ∀ (y : Nat × Obj), y ∈ [(w.heap.size, Obj.cells #[.int .i64 stop] 3 (0, 0)), (w1.heap.size, Obj.cells #[.pointer (some ⟨b, 0, none⟩)] 22 (0, 0)), (w1.heap.size + 1, Obj.cells #[.pointer (some ⟨p, 0, none⟩)] 23 (0, 0))] → X.heap[y.1]? = some y.2 := fun y hy => by
            have h2 := HC0.out.bx y hy
            have h4 : y.1 ≤ w1.heap.size + 1 := by
              simp only [List.mem_cons, List.not_mem_nil, or_false] at hy
              rcases hy with rfl | rfl | rfl
              · show w.heap.size ≤ _; omega
              · show w1.heap.size ≤ _; omega
              · exact Nat.le_refl _
            have h3 := HFine.out y.1 (block_lt h2.1) (by omega) h2.2
            have h5 := (HKp.out r').2 _ h3
            have h6 := hX.2 _ h5.2
            exact (h6.1.trans h5.1).trans h2.1
          refine ⟨(blk_at (bx _ (List.mem_cons_self ..)) 0).trans rfl, (blk_at (bx _ (List.mem_cons_of_mem _ (List.mem_cons_self ..))) 0).trans rfl, (blk_at (bx _ (List.mem_cons_of_mem _ (List.mem_cons_of_mem _ (List.mem_cons_self ..)))) 0).trans rfl, ?_⟩
          have hf : FineR (w4.heap.size + 1) (W0.heap.size + 1) b bm p W.heap.size (Z r') := by
            have h7 := HDz.out r'
            have h8 := HFl.out
            have h9 := HRg.out r'
            refine ⟨h7.2.2.1, ⟨h9.bx.lt, h9.p2.r.ltp⟩, ⟨by omega, by omega, by omega, by omega, by omega⟩, fun u hu e => ?_, fun u hu e => ?_⟩
            · have e2 : u = .slice ag pre.length cg := by
                have h3 := h9.bx
                unfold Boxed at h3 hu
                rw [hu] at h3
                simpa using h3
              rw [e2] at e
              have := hvg _ e
              omega
            · rw [show (Z r').cell? ⟨p, 2, none⟩ = some v1 from (h9.p2.r.c 2).trans rfl] at hu
              cases hu
              have := hfx _ (.inr (.inr (.inl e)))
              omega
          exact (hX.2 _ hf).1.trans (HDz.out r').2.2.2
        have HW : Hid (W0.heap.size + 1 < W.heap.size) := by show _ < _; omega
        have HB1 : Hid _ := hb1
        clear hKp hRg hj hlo hBl hszp hszW hfx hvg hV hlen hrp hr hD hb1 hr1 hs0 hw4 hwr hBx hBn hpl
        simp only [pcl, ecl]
        gi_wp2
        refine ⟨⟨HB1.out.block _ (by have := HW.out; omega), HB1.out.block _ (by have := HW.out; omega)⟩, kpR_below HB1.out, fun r' => ?_⟩
        have hz' : Z r' = (W.alloc (.cells #[.int .i64 x.e.id, .int .u16 x.e.rq.fl, .int .u16 x.e.rq.ty, .int .u64 x.e.rq.ck, .int .u64 x.e.rq.off, .int .u64 x.e.rq.len, .slice x.da x.e.rq.data.length x.dc, .bool x.e.rd, .slice x.aa x.e.an.length x.ac] TEn)).putObj (W0.heap.size + 1) (.loop r') := congrFun hZ r'
        rw [← hz']
        clear hZ hz' HB1
        have HRr : Hid _ := HRg.out r'
        have HDr : Hid _ := HDz.out r'
        have HKr : Hid _ := HKp.out r'
        have HOr : Hid _ := HOk.out r'
        have HBr : Hid _ := HBz.out r'
        have HXr : Hid _ := HBox.out r'
        clear HRg HDz HKp HOk HBz HBox
        generalize Z r' = Z1 at *
        clear Z
        obtain ⟨c5, ct, cp, hcx⟩ := HXr.out Z1 ⟨Nat.le_refl _, fun g hf => ⟨rfl, hf⟩⟩
        have cB : Z1.cell? ⟨w4.heap.size + 1, 0, none⟩ = some (.slice ag pre.length cg) := HRr.out.bx.cell
        have fB := HRr.out.bx.frozen
        have d0 : Z1.cell? ⟨W.heap.size, 0, none⟩ = some (.int .i64 x.e.id) := (blk_at hcx 0).trans rfl
        have d1 : Z1.cell? ⟨W.heap.size, 1, none⟩ = some (.int .u16 x.e.rq.fl) := (blk_at hcx 1).trans rfl
        have d2 : Z1.cell? ⟨W.heap.size, 2, none⟩ = some (.int .u16 x.e.rq.ty) := (blk_at hcx 2).trans rfl
        have d3 : Z1.cell? ⟨W.heap.size, 3, none⟩ = some (.int .u64 x.e.rq.ck) := (blk_at hcx 3).trans rfl
        have d4 : Z1.cell? ⟨W.heap.size, 4, none⟩ = some (.int .u64 x.e.rq.off) := (blk_at hcx 4).trans rfl
        have d5 : Z1.cell? ⟨W.heap.size, 5, none⟩ = some (.int .u64 x.e.rq.len) := (blk_at hcx 5).trans rfl
        have d6 : Z1.cell? ⟨W.heap.size, 6, none⟩ = some (.slice x.da x.e.rq.data.length x.dc) := (blk_at hcx 6).trans rfl
        have d7 : Z1.cell? ⟨W.heap.size, 7, none⟩ = some (.bool x.e.rd) := (blk_at hcx 7).trans rfl
        have d8 : Z1.cell? ⟨W.heap.size, 8, none⟩ = some (.slice x.aa x.e.an.length x.ac) := (blk_at hcx 8).trans rfl
        clear hcx
        by_cases hst : (pre.length : Int) = stop
        · gi_wp2
          exact ⟨⟨rfl, rfl⟩, pre, x, rfl, rfl, hst, HKr.out, ⟨_, _, _, _, _, _, HRr.out⟩, HJ.out, HLo.out, HBr.out⟩
        · have HJ2 : Hid (∀ j : Nat, j < (pre ++ [x]).length → (j : Int) ≠ stop) := fun j hj => by
            rw [List.length_append] at hj
            rcases Nat.lt_or_ge j pre.length with h9 | h9
            · exact HJ.out j h9
            · have : j = pre.length := by simp at hj; omega
              rw [this]; exact hst
          have HLo2 : Hid (∀ y ∈ pre ++ [x], W0.heap.size + 2 ≤ y.lo) := fun y hy => by
            rcases List.mem_append.1 hy with hy | hy
            · exact HLo.out y hy
            · simp at hy; subst hy; exact HX.out.1
          gi_wp2_with (first | (gi_at_builtin; refine wpListIn_append_own_at _ rfl _ _ TEns rfl (w4.heap.size + 1) TEn i0 _ 9 96 Try.underlying61 hi0 hz0 hz1 hz2 rfl (by decide) _ _ _ rfl (HRr.out.tl.row.alloc _) ⟨Z1.heap.size, 0, none⟩ 1 1 (pcl x) rfl rfl (World.news_of_block (heap_alloc_new Z1 _)) (by simp [Value.oneCell', pcl, ecl]) (by have := HPL.out; unfold maxLen; omega) (by have := HPL.out; omega) (by have := HRr.out.bx.lt; simp; omega) ?_; intro v2 w6 hown' hgrow hnl hat; have hat2 : v2.ownBlock = (Value.slice ag pre.length cg).ownBlock ∨ v2.ownBlock = some (Z1.heap.size + 1) := (by {rw [World.size_alloc] at hat; exact hat}); clear hnl hat; obtain ⟨g', cap', rfl⟩ := ownsRow_succ hown'; obtain ⟨hv1, hR6, hK6, hT6, hB6⟩ := HRr.out.appended x HOr.out (by have := HX.out.1; have := HS0.out; omega) HX.out.2.1 HX.out.2.2.2 HDr.out.1 ⟨_, HDr.out.2.1⟩ (by have := HS0.out; omega) hown' hgrow hat2; have hc1 := hv1.cell; have hf1 := hv1.frozen; have HR6 : Hid _ := hR6; have HK6 : Hid _ := hK6; have HT6 : Hid _ := hT6; have HB6 : Hid _ := hB6; obtain ⟨_, t6, p6, hx6⟩ := HXr.out _ hK6; have x6 := (blk_at hx6 0).trans rfl; clear hv1 hR6 hK6 hT6 hB6 hx6 hown' hgrow hat2) | fail)
          generalize w6.setCell ⟨w4.heap.size + 1, 0, none⟩ (.slice (some ⟨g', 0, none⟩) (pre.length + 1) cap') = W6 at *
          have HL6 : Hid (W0.heap.size + 1 < W6.heap.size) := by
            show _ < _
            have h1 := HB6.out.size
            have h2 := HDr.out.2.2.1
            have h3 := HW.out
            omega
          have hwf := HC0.out.pr.t.wf (ids_mem (List.mem_of_getElem? HX.out.2.2.1))
          have HN6 : Hid (Below w.heap.size Z1 W6) := HB6.out.mono HLw.out
          clear d0 d1 d2 d3 d4 d5 d6 d7 d8 c5 ct cp cB fB hc1 hf1
          refine ⟨trivial, (CallsIn.inRound _ (callsIn_wide.2 (doneC HR6.out.p2.t x.e.id hwf none 0 0 [] (brow0 W6) rfl))).mono ?_⟩
          rintro r7 W7 ⟨rfl, F7, V7, ha7⟩
          have HR7 : Hid _ := HR6.out.actT ha7 HL6.out
          have HK7 : Hid (KpR (w4.heap.size + 1) (W0.heap.size + 1) b bm p Z1 W7) := kpR_t HK6.out (HR6.out.kpT ha7)
          have HT7 : Hid (Two2 W0.heap.size Z1 W7) := two_t HT6.out (HR6.out.twoT ha7 HL6.out)
          have HL7 : Hid (W0.heap.size + 1 < W7.heap.size) := Nat.lt_of_lt_of_le HL6.out ha7.kept.size
          obtain ⟨_, t7, p7, hx7⟩ := HXr.out _ HK7.out
          have x7 : W7.cell? ⟨W.heap.size, 0, none⟩ = some (.int .i64 x.e.id) := (blk_at hx7 0).trans rfl
          have HN7 : Hid (Below w.heap.size Z1 W7) := HN6.out.trans (ha7.below' HR6.out.p2)
          clear ha7 hx7 t6 p6 x6 HR6 HK6 HT6 HL6
          gi_wp2_with fail
          refine ⟨trivial, (CallsIn.inRound _ (callsIn_wide.2 (takeC HR7.out.p2.t x.e.id hwf))).mono ?_⟩
          rintro r8 W8 ⟨ta, tc, rfl, _, _, _, ha8⟩
          have HR8 : Hid _ := HR7.out.actT ha8 HL7.out
          have HK8 : Hid (KpR (w4.heap.size + 1) (W0.heap.size + 1) b bm p Z1 W8) := kpR_t HK7.out (HR7.out.kpT ha8)
          have HT8 : Hid (Two2 W0.heap.size Z1 W8) := two_t HT7.out (HR7.out.twoT ha8 HL7.out)
          have HL8 : Hid (W0.heap.size + 1 < W8.heap.size) := Nat.lt_of_lt_of_le HL7.out ha8.kept.size
          obtain ⟨_, t8, p8, hx8⟩ := HXr.out _ HK8.out
          have x8 : W8.cell? ⟨W.heap.size, 0, none⟩ = some (.int .i64 x.e.id) := (blk_at hx8 0).trans rfl
          have HN8 : Hid (Below w.heap.size Z1 W8) := HN7.out.trans (ha8.below' HR7.out.p2)
          clear ha8 hx8 t7 p7 x7 HR7 HK7 HT7 HL7
          gi_wp2_with fail
          refine ⟨trivial, (CallsIn.inRound _ (callsIn_wide.2 (rdoneV HR8.out.p2.r x.e.id))).mono ?_⟩
          rintro r9 W9 ⟨⟨y9, rfl⟩, G9, U9, ha9⟩
          have HR9 : Hid _ := HR8.out.actR ha9 HL8.out
          have HK9 : Hid (KpR (w4.heap.size + 1) (W0.heap.size + 1) b bm p Z1 W9) := kpR_t HK8.out (HR8.out.kpR ha9 (fun g hg => .inl hg))
          have HT9 : Hid (Two2 W0.heap.size Z1 W9) := two_t HT8.out (HR8.out.twoR ha9 HL8.out)
          have HL9 : Hid (W0.heap.size + 1 < W9.heap.size) := Nat.lt_of_lt_of_le HL8.out ha9.kept.size
          obtain ⟨_, t9, p9, hx9⟩ := HXr.out _ HK9.out
          have x9 : W9.cell? ⟨W.heap.size, 0, none⟩ = some (.int .i64 x.e.id) := (blk_at hx9 0).trans rfl
          have HN9 : Hid (Below w.heap.size Z1 W9) := HN8.out.trans (ha9.below' HR8.out.p2)
          clear ha9 hx9 t8 p8 x8 HR8 HK8 HT8 HL8
          gi_wp2_with fail
          refine ⟨trivial, (CallsIn.inRound _ (callsIn_wide.2 (rtakeV HR9.out.p2.r x.e.id))).mono ?_⟩
          rintro ra WA ⟨⟨ya, rfl⟩, va, haa, hva⟩
          have HRA : Hid _ := HR9.out.actR haa HL9.out
          have HKA : Hid (KpR (w4.heap.size + 1) (W0.heap.size + 1) b bm p Z1 WA) := kpR_t HK9.out (HR9.out.kpR haa hva)
          have HTA : Hid (Two2 W0.heap.size Z1 WA) := two_t HT9.out (HR9.out.twoR haa HL9.out)
          have HNA : Hid (Below w.heap.size Z1 WA) := HN9.out.trans (haa.below' HR9.out.p2)
          clear haa hva t9 p9 x9 HR9 HK9 HT9 HL9
          gi_wp2
          have hst2 : takeT (doneT (drp S pre.length) x.e.id []) x.e.id = drp S (pre ++ [x]).length := by
            rw [List.length_append]; exact step_S HC0.out.pr.t.ok HX.out.2.2.1
          have hRA := HRA.out
          rw [hst2] at hRA
          exact ⟨HTA.out, HKA.out, kpR_t HKr.out HKA.out, ⟨_, _, _, _, _, _, hRA⟩, HJ2.out, HLo2.out, HBr.out.trans HNA.out⟩
      case done =>
        rintro ys W hys hI hK
        obtain ⟨pre, hpre⟩ : ∃ pre, pre = ys := ⟨_, rfl⟩
        rw [← hpre] at hys hI
        clear hpre ys
        have hpn : pre.length = nL := by rw [← HNL.out, ← hys, List.length_map]
        have hkL : pre.map (·.e) = S.L.take pre.length := by rw [hys, List.take_of_length_le (by rw [HNL.out]; omega)]
        have hle : pre.length ≤ nL := by omega
        have hns := hI.2.2.1
        clear hys
        by_cases h0 : 0 ≤ stop
        · have hge : ¬ stop < (nL : Int) := fun h => hns stop.toNat (by omega) (by omega)
          clear hns
          have HPN : Hid (pre.length = nL) := hpn
          clear hpn
          obtain ⟨hKp, ⟨F1, G1, V1, v1, U1, vg, hRg⟩, hj, hlo, hBl⟩ := hI
          obtain ⟨ag, cg, rfl⟩ := owns_form9 hRg.tl.row
          have hszW := hKp.1
          have hL1 := HL1.out
          have hfl := HFl.out
          have hbx : ∀ (y : Nat × Obj), y ∈ [(w.heap.size, Obj.cells #[.int .i64 stop] 3 (0, 0)), (w1.heap.size, Obj.cells #[.pointer (some ⟨b, 0, none⟩)] 22 (0, 0)), (w1.heap.size + 1, Obj.cells #[.pointer (some ⟨p, 0, none⟩)] 23 (0, 0))] → W.heap[y.1]? = some y.2 := fun y hy => by
            have h2 := HC0.out.bx y hy
            have h4 : y.1 ≤ w1.heap.size + 1 := by
              simp only [List.mem_cons, List.not_mem_nil, or_false] at hy
              rcases hy with rfl | rfl | rfl
              · show w.heap.size ≤ _; omega
              · show w1.heap.size ≤ _; omega
              · exact Nat.le_refl _
            have h3 := HFine.out y.1 (block_lt h2.1) (by omega) h2.2
            exact (hKp.2 _ h3).1.trans h2.1
          have c5 : W.cell? ⟨w.heap.size, 0, none⟩ = some (.int .i64 stop) := (blk_at (hbx _ (List.mem_cons_self ..)) 0).trans rfl
          have hpb : W.heap[w1.heap.size + 1]? = some (.cells #[.pointer (some ⟨p, 0, none⟩)] 23 (0, 0)) := hbx _ (List.mem_cons_of_mem _ (List.mem_cons_of_mem _ (List.mem_cons_self ..)))
          have hcb : W.heap[w4.heap.size]? = some (.cells #[.pointer (some ⟨b, 0, none⟩)] 22 (0, 0)) := (hKp.2 _ (HFine.out _ (by omega) (by omega) (fun e => by have := Hfp.out _ e; omega))).1.trans HX0.out.a
          have cB : W.cell? ⟨w4.heap.size + 1, 0, none⟩ = some (.slice ag pre.length cg) := hRg.bx.cell
          have hOw : W.ownsRow wr.heap.size TEn 9 (.slice aw nL cw) nL (S.L.flatMap fun e => vcl (U e.id)) := row_same (w := W0) (row_later HO4.out HX0.out.bel) (fun g hg => (hKp.2 _ (HFine.out g (row_lt (row_later HO4.out HX0.out.bel) g hg).1 (fun e => by have := (row_lt HO4.out g hg).1; omega) (fun e => by have := Hfp.out _ e; have := (row_lt HO4.out g hg).2.1; omega))).1)
          have hPv : ∀ e ∈ S.L, PV W G (U e.id) e := fun e he => (HC0.out.pr.r.pv e he).same (fun g hg => (hKp.2 _ (fineG HC0.out.pr hBx hBn hg)).1)
          have HBR : Hid (BR W aw (S.L.take pre.length)) := br_want hOw hPv (fun g hg => by have := HC0.out.pr.r.lt g hg; omega) HNL.out
          have hcap : nL ≤ cw ∧ cw ≤ 9223372036854775807 := own_cap HO4.out
          have htk : (S.L.take pre.length).length = pre.length := by rw [List.length_take, HNL.out]; omega
          have HTk : Hid ((S.L.take pre.length).length = nL) := htk.trans HPN.out
          have HSm : Hid _ := sameEnsF (bc := cw) (S.L.take pre.length) hRg.tl hkL HBR.out (by rw [htk]; omega) HTk
          have hcapz : (pre.length : Int) ≤ (cw : Int) := by omega
          have HRg : Hid _ := hRg
          have HD : Hid (W.heap[W0.heap.size]? = some (.deferred (some [])) ∧ W.heap[w1.heap.size + 1]? = some (.cells #[.pointer (some ⟨p, 0, none⟩)] 23 (0, 0)) ∧ W.heap[w4.heap.size]? = some (.cells #[.pointer (some ⟨b, 0, none⟩)] 22 (0, 0)) ∧ Below w.heap.size w W ∧ (∀ y ∈ pre, W0.heap.size + 2 ≤ y.lo) ∧ W0.heap.size ≤ W.heap.size) := ⟨hK, hpb, hcb, hBl, hlo, hszW⟩
          have HSz : Hid (w1.heap.size + 1 < w4.heap.size ∧ w.heap.size ≤ w4.heap.size ∧ W0.heap.size = w4.heap.size + 2) := ⟨by omega, by omega, hs0⟩
          clear hKp hRg hj hlo hBl hszW hL1 hfl hbx hpb hcb hOw hPv htk hkL hK hs0 hw4 hwr hBx hBn hpl
          go_wp2_with fail
          refine Calls.mono HSm.out ?_
          rintro r2 W2 ⟨rfl, hk2⟩
          have hnt : ∀ g, g < W0.heap.size + 2 → ¬ told pre g := fun g hg ⟨y, hy, h1, _⟩ => by have := HD.out.2.2.2.2.1 y hy; omega
          have HP2 : Hid _ := HRg.out.p2.keep hk2 (fun g hg => (HRg.out.ap g hg).1)
          have HE2 : Hid (W2.heap[W0.heap.size]? = some (.deferred (some [])) ∧ W2.heap[w1.heap.size + 1]? = some (.cells #[.pointer (some ⟨p, 0, none⟩)] 23 (0, 0)) ∧ W2.heap[w4.heap.size]? = some (.cells #[.pointer (some ⟨b, 0, none⟩)] 22 (0, 0)) ∧ Below w.heap.size w W2 ∧ W0.heap.size < W2.heap.size ∧ w1.heap.size + 1 < W2.heap.size ∧ w4.heap.size < W2.heap.size ∧ w.heap.size ≤ W2.heap.size) := by
            have h1 := HSz.out
            have h2 := HD.out
            have a1 := block_lt h2.1
            have a2 := hk2.size
            refine ⟨(hk2.block _ a1 (hnt _ (by omega))).trans h2.1, (hk2.block _ (by omega) (hnt _ (by omega))).trans h2.2.1, (hk2.block _ (by omega) (hnt _ (by omega))).trans h2.2.2.1, h2.2.2.2.1.trans (hk2.below (by omega) (fun g hg => hnt g (by omega))), by omega, by omega, by omega, by omega⟩
          clear hk2 hnt HD HRg HSm HBR cB c5
          go_wp2
          obtain ⟨W3, hW3⟩ : ∃ W3, W3 = W2.alloc (.cells #[.slice none 0 0] TEns) := ⟨_, rfl⟩
          have bO : Boxed W3 W2.heap.size TEns (.slice none 0 0) := by rw [hW3]; exact Boxed.new W2 TEns _
          have hs3 : W3.heap.size = W2.heap.size + 1 := by rw [hW3]; simp
          have hB3 : Below W2.heap.size W2 W3 := by rw [hW3]; exact below1 W2 _
          have HP3 : Hid _ := HP2.out.later hB3
          have hdl : (drp S pre.length).L.length ≤ 64 := by have := HP2.out.t.ok.len; have := HP2.out.t.ok.m2; omega
          have hseq2 := seq_allW 3 (by omega) (keepsE W3.heap.size W2.heap.size) (w := W3) (po := some ⟨b, 0, none⟩) (F := F1) (V := V1) (drp S pre.length).L (fun W hW => sorted_any (HP3.out.t.later hW)) ((blk_at ((hB3.block _ HE2.out.2.2.2.2.2.2.1).trans HE2.out.2.2.1) 0).trans rfl) (by have := HE2.out.2.2.2.2.2.2.1; omega) HP3.out.t.pv HP3.out.t.lt hdl (fun X w1 k hb hsz hb2 hk hk2 => fineE_new bO hs3 hb hsz hb2 hk hk2) (fun g hg X hb hsz => fineE_old bO hs3 (HP2.out.t.lt g hg) hb hsz)
          rw [← hW3]
          clear hW3
          refine (wpIn_wide (n := 4)).1 ?_
          refine wpIn_rangeW rfl (by omega) (gf := 43) (lb := #[.pointer (some ⟨w4.heap.size, 0, none⟩)]) rfl f2 (enters_of Try.func43 (by kernel_rfl) rfl) hseq2 kpE_t (fun X r r' _ => kpE_put (by omega) X _) (Below.refl _ _) (fun _ => rfl)
            (I2 W2 W3) (fun _ _ _ => False) (I2.ab (by omega)) (fun _ => ⟨fun _ _ _ h _ => h, fun _ _ _ _ h _ => h⟩) ⟨⟨_, bO, ⟨⟨rfl, .inl ⟨rfl, rfl⟩⟩, by simp, by simp, by simp⟩⟩, by simp, hB3⟩ ?round2 ?done2 ?stop2
          case stop2 =>
            rintro c q X _ h _
            exact h.elim
          case round2 =>
            rintro qs x Wp X hI hbX hV hlen ⟨rp, hrp⟩ ⟨r, hr⟩ hD
            obtain ⟨⟨vg, hvg, htg⟩, hlg, hBg⟩ := hI
            have hszp : W3.heap.size + 1 < Wp.heap.size := (Array.getElem?_eq_some_iff.1 hrp).1
            have hszX := hbX.size
            obtain ⟨aq, cq, rfl⟩ := owns_form9 htg.row
            have hb1 := below1 X (.cells #[.int .i64 x.e.id, .int .u16 x.e.rq.fl, .int .u16 x.e.rq.ty, .int .u64 x.e.rq.ck, .int .u64 x.e.rq.off, .int .u64 x.e.rq.len, .slice x.da x.e.rq.data.length x.dc, .bool x.e.rd, .slice x.aa x.e.an.length x.ac] TEn)
            have hr1 : (X.alloc (.cells #[.int .i64 x.e.id, .int .u16 x.e.rq.fl, .int .u16 x.e.rq.ty, .int .u64 x.e.rq.ck, .int .u64 x.e.rq.off, .int .u64 x.e.rq.len, .slice x.da x.e.rq.data.length x.dc, .bool x.e.rd, .slice x.aa x.e.an.length x.ac] TEn)).heap[W3.heap.size + 1]? = some (.loop r) := (hb1.block _ (by omega)).trans hr
            obtain ⟨Z, hZ⟩ : ∃ Z : Loop → World, Z = fun r' => (X.alloc (.cells #[.int .i64 x.e.id, .int .u16 x.e.rq.fl, .int .u16 x.e.rq.ty, .int .u64 x.e.rq.ck, .int .u64 x.e.rq.off, .int .u64 x.e.rq.len, .slice x.da x.e.rq.data.length x.dc, .bool x.e.rd, .slice x.aa x.e.an.length x.ac] TEn)).putObj (W3.heap.size + 1) (.loop r') := ⟨_, rfl⟩
            have nc : ∀ cs t fr, (X.alloc (.cells #[.int .i64 x.e.id, .int .u16 x.e.rq.fl, .int .u16 x.e.rq.ty, .int .u64 x.e.rq.ck, .int .u64 x.e.rq.off, .int .u64 x.e.rq.len, .slice x.da x.e.rq.data.length x.dc, .bool x.e.rd, .slice x.aa x.e.an.length x.ac] TEn)).heap[W3.heap.size + 1]? ≠ some (.cells cs t fr) := fun cs t fr h => by rw [hr1] at h; cases h
            have HIz : Hid (∀ r', (Boxed (Z r') W2.heap.size TEns (.slice aq qs.length cq) ∧ Tell (Z r') W2.heap.size (.slice aq qs.length cq) qs) ∧ Below W2.heap.size W2 (Z r') ∧ Ok1 (Z r') x ∧ (Z r').heap[W3.heap.size]? = some (.deferred (some [])) ∧ (Z r').heap[W3.heap.size + 1]? = some (.loop r') ∧ (Z r').heap[X.heap.size]? = some (.cells #[.int .i64 x.e.id, .int .u16 x.e.rq.fl, .int .u16 x.e.rq.ty, .int .u64 x.e.rq.ck, .int .u64 x.e.rq.off, .int .u64 x.e.rq.len, .slice x.da x.e.rq.data.length x.dc, .bool x.e.rd, .slice x.aa x.e.an.length x.ac] TEn (0, 0))) := fun r' => by
              rw [hZ]
              have hbb := hbX.trans (hb1.mono hbX.size)
              have h9 : (X.alloc (.cells #[.int .i64 x.e.id, .int .u16 x.e.rq.fl, .int .u16 x.e.rq.ty, .int .u64 x.e.rq.ck, .int .u64 x.e.rq.off, .int .u64 x.e.rq.len, .slice x.da x.e.rq.data.length x.dc, .bool x.e.rd, .slice x.aa x.e.an.length x.ac] TEn)).heap.size = X.heap.size + 1 := by simp
              have k1 := (hbb.block _ hvg.lt).trans hvg
              refine ⟨⟨(put_cells k1 nc).trans k1, (htg.later hbb).same (by simp) (fun g cs t hc => put_cells hc nc)⟩, (hBg.trans (hbb.mono hBg.size)).trans ⟨rfl, rfl, rfl, by simp, fun k hk => World.putObj_heap_other (by omega)⟩, (hV.v.ok.later hb1).same (by simp) (fun g cs _ _ hc => put_cells hc nc), (World.putObj_heap_other (by omega)).trans ((hb1.block _ (by omega)).trans hD), World.putObj_heap_same (by omega), (World.putObj_heap_other (by omega)).trans (heap_new X _)⟩
            have HXq : Hid (W3.heap.size + 2 ≤ x.lo ∧ (∀ y ∈ qs, y.hi ≤ x.lo) ∧ W2.heap.size ≤ x.lo ∧ W2.heap.size ≠ W3.heap.size ∧ W2.heap.size ≠ W3.heap.size + 1 ∧ W3.heap.size + 1 < X.heap.size) := ⟨by have := hV.new; omega, hV.v.ap, by have := hV.new; omega, by omega, by omega, by omega⟩
            have HQL : Hid (qs.length < 64) := by show qs.length < 64; omega
            have HLg : Hid _ := hlg
            have HB1 : Hid _ := hb1
            clear hvg htg hlg hBg hszp hszX hrp hr hD hb1 hr1 nc hV hlen hs3 hseq2 bO hB3 hdl
            simp only [pcl, ecl]
            gi_wp2
            refine ⟨⟨HB1.out.block _ (by have := HXq.out; omega), HB1.out.block _ (by have := HXq.out; omega)⟩, kpE_below HB1.out, fun r' => ?_⟩
            have hz' : Z r' = (X.alloc (.cells #[.int .i64 x.e.id, .int .u16 x.e.rq.fl, .int .u16 x.e.rq.ty, .int .u64 x.e.rq.ck, .int .u64 x.e.rq.off, .int .u64 x.e.rq.len, .slice x.da x.e.rq.data.length x.dc, .bool x.e.rd, .slice x.aa x.e.an.length x.ac] TEn)).putObj (W3.heap.size + 1) (.loop r') := congrFun hZ r'
            rw [← hz']
            clear hZ hz' HB1
            have HIr : Hid _ := HIz.out r'
            clear HIz
            generalize Z r' = Z1 at *
            clear Z
            have cB := HIr.out.1.1.cell
            have fB := HIr.out.1.1.frozen
            have d0 : Z1.cell? ⟨X.heap.size, 0, none⟩ = some (.int .i64 x.e.id) := (blk_at HIr.out.2.2.2.2.2 0).trans rfl
            have d1 : Z1.cell? ⟨X.heap.size, 1, none⟩ = some (.int .u16 x.e.rq.fl) := (blk_at HIr.out.2.2.2.2.2 1).trans rfl
            have d2 : Z1.cell? ⟨X.heap.size, 2, none⟩ = some (.int .u16 x.e.rq.ty) := (blk_at HIr.out.2.2.2.2.2 2).trans rfl
            have d3 : Z1.cell? ⟨X.heap.size, 3, none⟩ = some (.int .u64 x.e.rq.ck) := (blk_at HIr.out.2.2.2.2.2 3).trans rfl
            have d4 : Z1.cell? ⟨X.heap.size, 4, none⟩ = some (.int .u64 x.e.rq.off) := (blk_at HIr.out.2.2.2.2.2 4).trans rfl
            have d5 : Z1.cell? ⟨X.heap.size, 5, none⟩ = some (.int .u64 x.e.rq.len) := (blk_at HIr.out.2.2.2.2.2 5).trans rfl
            have d6 : Z1.cell? ⟨X.heap.size, 6, none⟩ = some (.slice x.da x.e.rq.data.length x.dc) := (blk_at HIr.out.2.2.2.2.2 6).trans rfl
            have d7 : Z1.cell? ⟨X.heap.size, 7, none⟩ = some (.bool x.e.rd) := (blk_at HIr.out.2.2.2.2.2 7).trans rfl
            have d8 : Z1.cell? ⟨X.heap.size, 8, none⟩ = some (.slice x.aa x.e.an.length x.ac) := (blk_at HIr.out.2.2.2.2.2 8).trans rfl
            gi_wp2_with (first | (gi_at_builtin; refine wpListIn_append_own_at _ rfl _ _ TEns rfl W2.heap.size TEn i0 _ 9 96 Try.underlying61 hi0 hz0 hz1 hz2 rfl (by decide) _ _ _ rfl (HIr.out.1.2.row.alloc _) ⟨Z1.heap.size, 0, none⟩ 1 1 (pcl x) rfl rfl (World.news_of_block (heap_alloc_new Z1 _)) (by simp [Value.oneCell', pcl, ecl]) (by have := HQL.out; unfold maxLen; omega) (by have := HQL.out; omega) (by have := HIr.out.1.1.lt; simp; omega) ?_; intro v2 w6 hown' hgrow hnl hat; have hat2 : v2.ownBlock = (Value.slice aq qs.length cq).ownBlock ∨ v2.ownBlock = some (Z1.heap.size + 1) := (by {rw [World.size_alloc] at hat; exact hat}); clear hnl hat; obtain ⟨g', cap', rfl⟩ := ownsRow_succ hown'; obtain ⟨hv1, hR6, hK6, hT6, hB6⟩ := tell_appended HIr.out.1.1 HIr.out.1.2 x HIr.out.2.2.1 HXq.out.2.2.1 HXq.out.2.1 HIr.out.2.2.2.1 ⟨_, HIr.out.2.2.2.2.1⟩ ⟨HXq.out.2.2.2.1, HXq.out.2.2.2.2.1⟩ hown' hgrow hat2; have hc1 := hv1.cell; have hf1 := hv1.frozen; have HR6 : Hid _ := hR6; have HK6 : Hid _ := hK6; have HT6 : Hid _ := hT6; have HB6 : Hid _ := hB6; clear hv1 hR6 hK6 hT6 hB6 hown' hgrow hat2) | fail)
            refine ⟨HT6.out, HK6.out, ⟨_, HR6.out⟩, fun y hy => ?_, HIr.out.2.1.trans HB6.out⟩
            rcases List.mem_append.1 hy with hy | hy
            · exact HLg.out y hy
            · simp at hy; subst hy; exact HXq.out.1
          case done2 =>
            rintro ys W5 hys ⟨⟨vA, hvA, htA⟩, hlA, hBA⟩ hK5
            obtain ⟨aA, cA, rfl⟩ := owns_form9 htA.row
            have hyl : ys.length = (drp S pre.length).L.length := by rw [← hys, List.length_map]
            obtain ⟨ar, cr, hvr⟩ := owns_form9 HP3.out.r.row
            have HP5 : Hid _ := HP2.out.later hBA
            rw [hvr] at HP5
            obtain ⟨nA, hnA⟩ : ∃ n, (drp S pre.length).L.length = n := ⟨_, rfl⟩
            rw [hyl] at htA hvA
            rw [hnA] at HP5 htA hvA
            have hbd : Below W5.heap.size W5 W5.drew := ⟨rfl, rfl, rfl, Nat.le_refl _, fun _ _ => rfl⟩
            have q0 : W5.cell? ⟨W2.heap.size, 0, none⟩ = some (.slice aA nA cA) := hvA.cell
            have q1 : W5.cell? ⟨w1.heap.size + 1, 0, none⟩ = some (.pointer (some ⟨p, 0, none⟩)) := (blk_at ((hBA.block _ HE2.out.2.2.2.2.2.1).trans HE2.out.2.1) 0).trans rfl
            have q2 : W5.cell? ⟨p, 2, none⟩ = some (.slice ar nA cr) := (HP5.out.r.c 2).trans rfl
            have HA : Hid _ := sameEnsF (bc := cr) (drp S pre.length).L (htA.later hbd) hys (HP5.out.later hbd).r.br hdl hnA
            have HE5 : Hid (W5.heap[W3.heap.size]? = some (.deferred (some [])) ∧ (∀ g, g < W3.heap.size + 2 → ¬ told ys g) ∧ Below W2.heap.size W2 W5 ∧ W2.heap.size ≤ W3.heap.size) := ⟨hK5, fun g hg ⟨y, hy, h1, _⟩ => by have := hlA y hy; omega, hBA, by omega⟩
            have HNo : Hid (∀ X, KeptIn (told ys) W5.drew X → X.cell? ⟨W2.heap.size, 0, none⟩ = some (.slice aA nA cA) ∧ X.cell? ⟨w1.heap.size + 1, 0, none⟩ = some (.pointer (some ⟨p, 0, none⟩)) ∧ X.cell? ⟨p, 2, none⟩ = some (.slice ar nA cr)) := fun X hX => by
              have h1 := HE5.out
              have h2 := HE2.out
              have h3 := hBA.size
              have hb : ∀ g, g < W3.heap.size + 2 → g < W5.heap.size → X.heap[g]? = W5.heap[g]? := fun g hg hg2 => hX.block g hg2 (h1.2.1 g hg)
              have h4 : p < W2.heap.size := HP2.out.r.ltp
              exact ⟨(cell_block (hb _ (by omega) hvA.lt)).trans q0, (cell_block (hb _ (by omega) (by omega))).trans q1, (cell_block (hb _ (by omega) (by omega))).trans q2⟩
            clear hvA htA hlA hBA hK5 hyl hvr hnA hbd hs3 hseq2 bO hB3 hdl hys
            go_wp2
            go_region_held3 (fun w' => w'.cell? ⟨W2.heap.size, 0, none⟩ = some (.slice aA nA cA) ∧ w'.cell? ⟨w1.heap.size + 1, 0, none⟩ = some (.pointer (some ⟨p, 0, none⟩)) ∧ w'.cell? ⟨p, 2, none⟩ = some (.slice ar nA cr)) (first | exact HNo.out _ HB9.out | go_keep) (first | (go_at_call 30; refine Calls.mono HA.out ?_; rintro r w9 ⟨rfl, hb9⟩; have HB9 : Hid _ := hb9; clear hb9) | fail)
            go_wp2
            have h1 := HE5.out
            have h2 := HE2.out
            have h9 := HB9.out
            have h3 : W5.heap.size ≤ w9.heap.size := h9.size
            have hw3 : W3.heap.size < W5.heap.size := block_lt h1.1
            have d3 : w9.heap[W3.heap.size]? = some (.deferred (some [])) := (h9.block _ hw3 (h1.2.1 _ (by omega))).trans h1.1
            have d0 : w9.heap[W0.heap.size]? = some (.deferred (some [])) := (h9.block _ (by show W0.heap.size < W5.heap.size; omega) (h1.2.1 _ (by omega))).trans ((h1.2.2.1.block _ h2.2.2.2.2.1).trans h2.1)
            have d0' : (w9.putObj W3.heap.size (.deferred none)).heap[W0.heap.size]? = some (.deferred (some [])) := (World.putObj_heap_other (by omega)).trans d0
            have hsz0 := HSz.out
            have hbe : Below w.heap.size w w9 := h2.2.2.2.1.trans ((h1.2.2.1.mono (by omega)).trans ⟨h9.os, h9.tape, h9.output, h9.size, fun g hg => h9.block g (by show g < W5.heap.size; omega) (h1.2.1 g (by omega))⟩)
            have e1 : Below w.heap.size w (w9.putObj W3.heap.size (.deferred none)) := hbe.trans ⟨rfl, rfl, rfl, by simp, fun k hk => World.putObj_heap_other (by omega)⟩
            have e2 : Below w.heap.size w ((w9.putObj W3.heap.size (.deferred none)).putObj W0.heap.size (.deferred none)) := e1.trans ⟨rfl, rfl, rfl, by simp, fun k hk => World.putObj_heap_other (by omega)⟩
            refine ⟨by simp, .inl ⟨_, _, rfl, run_takeDeferred d3, ⟨by simp, .inl ⟨_, _, rfl, run_takeDeferred d0', ?_⟩⟩⟩⟩
            exact ⟨_, results_tmp rfl _ _ _, rfl, e2⟩
        · clear hns
          have HPN : Hid (pre.length = nL) := hpn
          clear hpn
          obtain ⟨hKp, ⟨F1, G1, V1, v1, U1, vg, hRg⟩, hj, hlo, hBl⟩ := hI
          obtain ⟨ag, cg, rfl⟩ := owns_form9 hRg.tl.row
          have hszW := hKp.1
          have hL1 := HL1.out
          have hfl := HFl.out
          have hbx : ∀ (y : Nat × Obj), y ∈ [(w.heap.size, Obj.cells #[.int .i64 stop] 3 (0, 0)), (w1.heap.size, Obj.cells #[.pointer (some ⟨b, 0, none⟩)] 22 (0, 0)), (w1.heap.size + 1, Obj.cells #[.pointer (some ⟨p, 0, none⟩)] 23 (0, 0))] → W.heap[y.1]? = some y.2 := fun y hy => by
            have h2 := HC0.out.bx y hy
            have h4 : y.1 ≤ w1.heap.size + 1 := by
              simp only [List.mem_cons, List.not_mem_nil, or_false] at hy
              rcases hy with rfl | rfl | rfl
              · show w.heap.size ≤ _; omega
              · show w1.heap.size ≤ _; omega
              · exact Nat.le_refl _
            have h3 := HFine.out y.1 (block_lt h2.1) (by omega) h2.2
            exact (hKp.2 _ h3).1.trans h2.1
          have c5 : W.cell? ⟨w.heap.size, 0, none⟩ = some (.int .i64 stop) := (blk_at (hbx _ (List.mem_cons_self ..)) 0).trans rfl
          have hpb : W.heap[w1.heap.size + 1]? = some (.cells #[.pointer (some ⟨p, 0, none⟩)] 23 (0, 0)) := hbx _ (List.mem_cons_of_mem _ (List.mem_cons_of_mem _ (List.mem_cons_self ..)))
          have hcb : W.heap[w4.heap.size]? = some (.cells #[.pointer (some ⟨b, 0, none⟩)] 22 (0, 0)) := (hKp.2 _ (HFine.out _ (by omega) (by omega) (fun e => by have := Hfp.out _ e; omega))).1.trans HX0.out.a
          have cB : W.cell? ⟨w4.heap.size + 1, 0, none⟩ = some (.slice ag pre.length cg) := hRg.bx.cell
          have hOw : W.ownsRow wr.heap.size TEn 9 (.slice aw nL cw) nL (S.L.flatMap fun e => vcl (U e.id)) := row_same (w := W0) (row_later HO4.out HX0.out.bel) (fun g hg => (hKp.2 _ (HFine.out g (row_lt (row_later HO4.out HX0.out.bel) g hg).1 (fun e => by have := (row_lt HO4.out g hg).1; omega) (fun e => by have := Hfp.out _ e; have := (row_lt HO4.out g hg).2.1; omega))).1)
          have hPv : ∀ e ∈ S.L, PV W G (U e.id) e := fun e he => (HC0.out.pr.r.pv e he).same (fun g hg => (hKp.2 _ (fineG HC0.out.pr hBx hBn hg)).1)
          have HBR : Hid (BR W aw (S.L.take pre.length)) := br_want hOw hPv (fun g hg => by have := HC0.out.pr.r.lt g hg; omega) HNL.out
          have hcap : nL ≤ cw ∧ cw ≤ 9223372036854775807 := own_cap HO4.out
          have htk : (S.L.take pre.length).length = pre.length := by rw [List.length_take, HNL.out]; omega
          have HTk : Hid ((S.L.take pre.length).length = nL) := htk.trans HPN.out
          have HSm : Hid _ := sameEnsF (bc := cw) (S.L.take pre.length) hRg.tl hkL HBR.out (by rw [htk]; omega) HTk
          have hcapz : (pre.length : Int) ≤ (cw : Int) := by omega
          have HRg : Hid _ := hRg
          have HD : Hid (W.heap[W0.heap.size]? = some (.deferred (some [])) ∧ W.heap[w1.heap.size + 1]? = some (.cells #[.pointer (some ⟨p, 0, none⟩)] 23 (0, 0)) ∧ W.heap[w4.heap.size]? = some (.cells #[.pointer (some ⟨b, 0, none⟩)] 22 (0, 0)) ∧ Below w.heap.size w W ∧ (∀ y ∈ pre, W0.heap.size + 2 ≤ y.lo) ∧ W0.heap.size ≤ W.heap.size) := ⟨hK, hpb, hcb, hBl, hlo, hszW⟩
          have HSz : Hid (w1.heap.size + 1 < w4.heap.size ∧ w.heap.size ≤ w4.heap.size ∧ W0.heap.size = w4.heap.size + 2) := ⟨by omega, by omega, hs0⟩
          clear hKp hRg hj hlo hBl hszW hL1 hfl hbx hpb hcb hOw hPv htk hkL hK hs0 hw4 hwr hBx hBn hpl
          go_wp2_with fail
          refine Calls.mono HSm.out ?_
          rintro r2 W2 ⟨rfl, hk2⟩
          have hnt : ∀ g, g < W0.heap.size + 2 → ¬ told pre g := fun g hg ⟨y, hy, h1, _⟩ => by have := HD.out.2.2.2.2.1 y hy; omega
          have HP2 : Hid _ := HRg.out.p2.keep hk2 (fun g hg => (HRg.out.ap g hg).1)
          have HE2 : Hid (W2.heap[W0.heap.size]? = some (.deferred (some [])) ∧ W2.heap[w1.heap.size + 1]? = some (.cells #[.pointer (some ⟨p, 0, none⟩)] 23 (0, 0)) ∧ W2.heap[w4.heap.size]? = some (.cells #[.pointer (some ⟨b, 0, none⟩)] 22 (0, 0)) ∧ Below w.heap.size w W2 ∧ W0.heap.size < W2.heap.size ∧ w1.heap.size + 1 < W2.heap.size ∧ w4.heap.size < W2.heap.size ∧ w.heap.size ≤ W2.heap.size) := by
            have h1 := HSz.out
            have h2 := HD.out
            have a1 := block_lt h2.1
            have a2 := hk2.size
            refine ⟨(hk2.block _ a1 (hnt _ (by omega))).trans h2.1, (hk2.block _ (by omega) (hnt _ (by omega))).trans h2.2.1, (hk2.block _ (by omega) (hnt _ (by omega))).trans h2.2.2.1, h2.2.2.2.1.trans (hk2.below (by omega) (fun g hg => hnt g (by omega))), by omega, by omega, by omega, by omega⟩
          clear hk2 hnt HD HRg HSm HBR cB c5
          go_wp2
          obtain ⟨W3, hW3⟩ : ∃ W3, W3 = W2.alloc (.cells #[.slice none 0 0] TEns) := ⟨_, rfl⟩
          have bO : Boxed W3 W2.heap.size TEns (.slice none 0 0) := by rw [hW3]; exact Boxed.new W2 TEns _
          have hs3 : W3.heap.size = W2.heap.size + 1 := by rw [hW3]; simp
          have hB3 : Below W2.heap.size W2 W3 := by rw [hW3]; exact below1 W2 _
          have HP3 : Hid _ := HP2.out.later hB3
          have hdl : (drp S pre.length).L.length ≤ 64 := by have := HP2.out.t.ok.len; have := HP2.out.t.ok.m2; omega
          have hseq2 := seq_allW 3 (by omega) (keepsE W3.heap.size W2.heap.size) (w := W3) (po := some ⟨b, 0, none⟩) (F := F1) (V := V1) (drp S pre.length).L (fun W hW => sorted_any (HP3.out.t.later hW)) ((blk_at ((hB3.block _ HE2.out.2.2.2.2.2.2.1).trans HE2.out.2.2.1) 0).trans rfl) (by have := HE2.out.2.2.2.2.2.2.1; omega) HP3.out.t.pv HP3.out.t.lt hdl (fun X w1 k hb hsz hb2 hk hk2 => fineE_new bO hs3 hb hsz hb2 hk hk2) (fun g hg X hb hsz => fineE_old bO hs3 (HP2.out.t.lt g hg) hb hsz)
          rw [← hW3]
          clear hW3
          refine (wpIn_wide (n := 4)).1 ?_
          refine wpIn_rangeW rfl (by omega) (gf := 43) (lb := #[.pointer (some ⟨w4.heap.size, 0, none⟩)]) rfl f2 (enters_of Try.func43 (by kernel_rfl) rfl) hseq2 kpE_t (fun X r r' _ => kpE_put (by omega) X _) (Below.refl _ _) (fun _ => rfl)
            (I2 W2 W3) (fun _ _ _ => False) (I2.ab (by omega)) (fun _ => ⟨fun _ _ _ h _ => h, fun _ _ _ _ h _ => h⟩) ⟨⟨_, bO, ⟨⟨rfl, .inl ⟨rfl, rfl⟩⟩, by simp, by simp, by simp⟩⟩, by simp, hB3⟩ ?round2 ?done2 ?stop2
          case stop2 =>
            rintro c q X _ h _
            exact h.elim
          case round2 =>
            rintro qs x Wp X hI hbX hV hlen ⟨rp, hrp⟩ ⟨r, hr⟩ hD
            obtain ⟨⟨vg, hvg, htg⟩, hlg, hBg⟩ := hI
            have hszp : W3.heap.size + 1 < Wp.heap.size := (Array.getElem?_eq_some_iff.1 hrp).1
            have hszX := hbX.size
            obtain ⟨aq, cq, rfl⟩ := owns_form9 htg.row
            have hb1 := below1 X (.cells #[.int .i64 x.e.id, .int .u16 x.e.rq.fl, .int .u16 x.e.rq.ty, .int .u64 x.e.rq.ck, .int .u64 x.e.rq.off, .int .u64 x.e.rq.len, .slice x.da x.e.rq.data.length x.dc, .bool x.e.rd, .slice x.aa x.e.an.length x.ac] TEn)
            have hr1 : (X.alloc (.cells #[.int .i64 x.e.id, .int .u16 x.e.rq.fl, .int .u16 x.e.rq.ty, .int .u64 x.e.rq.ck, .int .u64 x.e.rq.off, .int .u64 x.e.rq.len, .slice x.da x.e.rq.data.length x.dc, .bool x.e.rd, .slice x.aa x.e.an.length x.ac] TEn)).heap[W3.heap.size + 1]? = some (.loop r) := (hb1.block _ (by omega)).trans hr
            obtain ⟨Z, hZ⟩ : ∃ Z : Loop → World, Z = fun r' => (X.alloc (.cells #[.int .i64 x.e.id, .int .u16 x.e.rq.fl, .int .u16 x.e.rq.ty, .int .u64 x.e.rq.ck, .int .u64 x.e.rq.off, .int .u64 x.e.rq.len, .slice x.da x.e.rq.data.length x.dc, .bool x.e.rd, .slice x.aa x.e.an.length x.ac] TEn)).putObj (W3.heap.size + 1) (.loop r') := ⟨_, rfl⟩
            have nc : ∀ cs t fr, (X.alloc (.cells #[.int .i64 x.e.id, .int .u16 x.e.rq.fl, .int .u16 x.e.rq.ty, .int .u64 x.e.rq.ck, .int .u64 x.e.rq.off, .int .u64 x.e.rq.len, .slice x.da x.e.rq.data.length x.dc, .bool x.e.rd, .slice x.aa x.e.an.length x.ac] TEn)).heap[W3.heap.size + 1]? ≠ some (.cells cs t fr) := fun cs t fr h => by rw [hr1] at h; cases h
            have HIz : Hid (∀ r', (Boxed (Z r') W2.heap.size TEns (.slice aq qs.length cq) ∧ Tell (Z r') W2.heap.size (.slice aq qs.length cq) qs) ∧ Below W2.heap.size W2 (Z r') ∧ Ok1 (Z r') x ∧ (Z r').heap[W3.heap.size]? = some (.deferred (some [])) ∧ (Z r').heap[W3.heap.size + 1]? = some (.loop r') ∧ (Z r').heap[X.heap.size]? = some (.cells #[.int .i64 x.e.id, .int .u16 x.e.rq.fl, .int .u16 x.e.rq.ty, .int .u64 x.e.rq.ck, .int .u64 x.e.rq.off, .int .u64 x.e.rq.len, .slice x.da x.e.rq.data.length x.dc, .bool x.e.rd, .slice x.aa x.e.an.length x.ac] TEn (0, 0))) := fun r' => by
              rw [hZ]
              have hbb := hbX.trans (hb1.mono hbX.size)
              have h9 : (X.alloc (.cells #[.int .i64 x.e.id, .int .u16 x.e.rq.fl, .int .u16 x.e.rq.ty, .int .u64 x.e.rq.ck, .int .u64 x.e.rq.off, .int .u64 x.e.rq.len, .slice x.da x.e.rq.data.length x.dc, .bool x.e.rd, .slice x.aa x.e.an.length x.ac] TEn)).heap.size = X.heap.size + 1 := by simp
              have k1 := (hbb.block _ hvg.lt).trans hvg
              refine ⟨⟨(put_cells k1 nc).trans k1, (htg.later hbb).same (by simp) (fun g cs t hc => put_cells hc nc)⟩, (hBg.trans (hbb.mono hBg.size)).trans ⟨rfl, rfl, rfl, by simp, fun k hk => World.putObj_heap_other (by omega)⟩, (hV.v.ok.later hb1).same (by simp) (fun g cs _ _ hc => put_cells hc nc), (World.putObj_heap_other (by omega)).trans ((hb1.block _ (by omega)).trans hD), World.putObj_heap_same (by omega), (World.putObj_heap_other (by omega)).trans (heap_new X _)⟩
            have HXq : Hid (W3.heap.size + 2 ≤ x.lo ∧ (∀ y ∈ qs, y.hi ≤ x.lo) ∧ W2.heap.size ≤ x.lo ∧ W2.heap.size ≠ W3.heap.size ∧ W2.heap.size ≠ W3.heap.size + 1 ∧ W3.heap.size + 1 < X.heap.size) := ⟨by have := hV.new; omega, hV.v.ap, by have := hV.new; omega, by omega, by omega, by omega⟩
            have HQL : Hid (qs.length < 64) := by show qs.length < 64; omega
            have HLg : Hid _ := hlg
            have HB1 : Hid _ := hb1
            clear hvg htg hlg hBg hszp hszX hrp hr hD hb1 hr1 nc hV hlen hs3 hseq2 bO hB3 hdl
            simp only [pcl, ecl]
            gi_wp2
            refine ⟨⟨HB1.out.block _ (by have := HXq.out; omega), HB1.out.block _ (by have := HXq.out; omega)⟩, kpE_below HB1.out, fun r' => ?_⟩
            have hz' : Z r' = (X.alloc (.cells #[.int .i64 x.e.id, .int .u16 x.e.rq.fl, .int .u16 x.e.rq.ty, .int .u64 x.e.rq.ck, .int .u64 x.e.rq.off, .int .u64 x.e.rq.len, .slice x.da x.e.rq.data.length x.dc, .bool x.e.rd, .slice x.aa x.e.an.length x.ac] TEn)).putObj (W3.heap.size + 1) (.loop r') := congrFun hZ r'
            rw [← hz']
            clear hZ hz' HB1
            have HIr : Hid _ := HIz.out r'
            clear HIz
            generalize Z r' = Z1 at *
            clear Z
            have cB := HIr.out.1.1.cell
            have fB := HIr.out.1.1.frozen
            have d0 : Z1.cell? ⟨X.heap.size, 0, none⟩ = some (.int .i64 x.e.id) := (blk_at HIr.out.2.2.2.2.2 0).trans rfl
            have d1 : Z1.cell? ⟨X.heap.size, 1, none⟩ = some (.int .u16 x.e.rq.fl) := (blk_at HIr.out.2.2.2.2.2 1).trans rfl
            have d2 : Z1.cell? ⟨X.heap.size, 2, none⟩ = some (.int .u16 x.e.rq.ty) := (blk_at HIr.out.2.2.2.2.2 2).trans rfl
            have d3 : Z1.cell? ⟨X.heap.size, 3, none⟩ = some (.int .u64 x.e.rq.ck) := (blk_at HIr.out.2.2.2.2.2 3).trans rfl
            have d4 : Z1.cell? ⟨X.heap.size, 4, none⟩ = some (.int .u64 x.e.rq.off) := (blk_at HIr.out.2.2.2.2.2 4).trans rfl
            have d5 : Z1.cell? ⟨X.heap.size, 5, none⟩ = some (.int .u64 x.e.rq.len) := (blk_at HIr.out.2.2.2.2.2 5).trans rfl
            have d6 : Z1.cell? ⟨X.heap.size, 6, none⟩ = some (.slice x.da x.e.rq.data.length x.dc) := (blk_at HIr.out.2.2.2.2.2 6).trans rfl
            have d7 : Z1.cell? ⟨X.heap.size, 7, none⟩ = some (.bool x.e.rd) := (blk_at HIr.out.2.2.2.2.2 7).trans rfl
            have d8 : Z1.cell? ⟨X.heap.size, 8, none⟩ = some (.slice x.aa x.e.an.length x.ac) := (blk_at HIr.out.2.2.2.2.2 8).trans rfl
            gi_wp2_with (first | (gi_at_builtin; refine wpListIn_append_own_at _ rfl _ _ TEns rfl W2.heap.size TEn i0 _ 9 96 Try.underlying61 hi0 hz0 hz1 hz2 rfl (by decide) _ _ _ rfl (HIr.out.1.2.row.alloc _) ⟨Z1.heap.size, 0, none⟩ 1 1 (pcl x) rfl rfl (World.news_of_block (heap_alloc_new Z1 _)) (by simp [Value.oneCell', pcl, ecl]) (by have := HQL.out; unfold maxLen; omega) (by have := HQL.out; omega) (by have := HIr.out.1.1.lt; simp; omega) ?_; intro v2 w6 hown' hgrow hnl hat; have hat2 : v2.ownBlock = (Value.slice aq qs.length cq).ownBlock ∨ v2.ownBlock = some (Z1.heap.size + 1) := (by {rw [World.size_alloc] at hat; exact hat}); clear hnl hat; obtain ⟨g', cap', rfl⟩ := ownsRow_succ hown'; obtain ⟨hv1, hR6, hK6, hT6, hB6⟩ := tell_appended HIr.out.1.1 HIr.out.1.2 x HIr.out.2.2.1 HXq.out.2.2.1 HXq.out.2.1 HIr.out.2.2.2.1 ⟨_, HIr.out.2.2.2.2.1⟩ ⟨HXq.out.2.2.2.1, HXq.out.2.2.2.2.1⟩ hown' hgrow hat2; have hc1 := hv1.cell; have hf1 := hv1.frozen; have HR6 : Hid _ := hR6; have HK6 : Hid _ := hK6; have HT6 : Hid _ := hT6; have HB6 : Hid _ := hB6; clear hv1 hR6 hK6 hT6 hB6 hown' hgrow hat2) | fail)
            refine ⟨HT6.out, HK6.out, ⟨_, HR6.out⟩, fun y hy => ?_, HIr.out.2.1.trans HB6.out⟩
            rcases List.mem_append.1 hy with hy | hy
            · exact HLg.out y hy
            · simp at hy; subst hy; exact HXq.out.1
          case done2 =>
            rintro ys W5 hys ⟨⟨vA, hvA, htA⟩, hlA, hBA⟩ hK5
            obtain ⟨aA, cA, rfl⟩ := owns_form9 htA.row
            have hyl : ys.length = (drp S pre.length).L.length := by rw [← hys, List.length_map]
            obtain ⟨ar, cr, hvr⟩ := owns_form9 HP3.out.r.row
            have HP5 : Hid _ := HP2.out.later hBA
            rw [hvr] at HP5
            obtain ⟨nA, hnA⟩ : ∃ n, (drp S pre.length).L.length = n := ⟨_, rfl⟩
            rw [hyl] at htA hvA
            rw [hnA] at HP5 htA hvA
            have hbd : Below W5.heap.size W5 W5.drew := ⟨rfl, rfl, rfl, Nat.le_refl _, fun _ _ => rfl⟩
            have q0 : W5.cell? ⟨W2.heap.size, 0, none⟩ = some (.slice aA nA cA) := hvA.cell
            have q1 : W5.cell? ⟨w1.heap.size + 1, 0, none⟩ = some (.pointer (some ⟨p, 0, none⟩)) := (blk_at ((hBA.block _ HE2.out.2.2.2.2.2.1).trans HE2.out.2.1) 0).trans rfl
            have q2 : W5.cell? ⟨p, 2, none⟩ = some (.slice ar nA cr) := (HP5.out.r.c 2).trans rfl
            have HA : Hid _ := sameEnsF (bc := cr) (drp S pre.length).L (htA.later hbd) hys (HP5.out.later hbd).r.br hdl hnA
            have HE5 : Hid (W5.heap[W3.heap.size]? = some (.deferred (some [])) ∧ (∀ g, g < W3.heap.size + 2 → ¬ told ys g) ∧ Below W2.heap.size W2 W5 ∧ W2.heap.size ≤ W3.heap.size) := ⟨hK5, fun g hg ⟨y, hy, h1, _⟩ => by have := hlA y hy; omega, hBA, by omega⟩
            have HNo : Hid (∀ X, KeptIn (told ys) W5.drew X → X.cell? ⟨W2.heap.size, 0, none⟩ = some (.slice aA nA cA) ∧ X.cell? ⟨w1.heap.size + 1, 0, none⟩ = some (.pointer (some ⟨p, 0, none⟩)) ∧ X.cell? ⟨p, 2, none⟩ = some (.slice ar nA cr)) := fun X hX => by
              have h1 := HE5.out
              have h2 := HE2.out
              have h3 := hBA.size
              have hb : ∀ g, g < W3.heap.size + 2 → g < W5.heap.size → X.heap[g]? = W5.heap[g]? := fun g hg hg2 => hX.block g hg2 (h1.2.1 g hg)
              have h4 : p < W2.heap.size := HP2.out.r.ltp
              exact ⟨(cell_block (hb _ (by omega) hvA.lt)).trans q0, (cell_block (hb _ (by omega) (by omega))).trans q1, (cell_block (hb _ (by omega) (by omega))).trans q2⟩
            clear hvA htA hlA hBA hK5 hyl hvr hnA hbd hs3 hseq2 bO hB3 hdl hys
            go_wp2
            go_region_held3 (fun w' => w'.cell? ⟨W2.heap.size, 0, none⟩ = some (.slice aA nA cA) ∧ w'.cell? ⟨w1.heap.size + 1, 0, none⟩ = some (.pointer (some ⟨p, 0, none⟩)) ∧ w'.cell? ⟨p, 2, none⟩ = some (.slice ar nA cr)) (first | exact HNo.out _ HB9.out | go_keep) (first | (go_at_call 30; refine Calls.mono HA.out ?_; rintro r w9 ⟨rfl, hb9⟩; have HB9 : Hid _ := hb9; clear hb9) | fail)
            go_wp2
            have h1 := HE5.out
            have h2 := HE2.out
            have h9 := HB9.out
            have h3 : W5.heap.size ≤ w9.heap.size := h9.size
            have hw3 : W3.heap.size < W5.heap.size := block_lt h1.1
            have d3 : w9.heap[W3.heap.size]? = some (.deferred (some [])) := (h9.block _ hw3 (h1.2.1 _ (by omega))).trans h1.1
            have d0 : w9.heap[W0.heap.size]? = some (.deferred (some [])) := (h9.block _ (by show W0.heap.size < W5.heap.size; omega) (h1.2.1 _ (by omega))).trans ((h1.2.2.1.block _ h2.2.2.2.2.1).trans h2.1)
            have d0' : (w9.putObj W3.heap.size (.deferred none)).heap[W0.heap.size]? = some (.deferred (some [])) := (World.putObj_heap_other (by omega)).trans d0
            have hsz0 := HSz.out
            have hbe : Below w.heap.size w w9 := h2.2.2.2.1.trans ((h1.2.2.1.mono (by omega)).trans ⟨h9.os, h9.tape, h9.output, h9.size, fun g hg => h9.block g (by show g < W5.heap.size; omega) (h1.2.1 g (by omega))⟩)
            have e1 : Below w.heap.size w (w9.putObj W3.heap.size (.deferred none)) := hbe.trans ⟨rfl, rfl, rfl, by simp, fun k hk => World.putObj_heap_other (by omega)⟩
            have e2 : Below w.heap.size w ((w9.putObj W3.heap.size (.deferred none)).putObj W0.heap.size (.deferred none)) := e1.trans ⟨rfl, rfl, rfl, by simp, fun k hk => World.putObj_heap_other (by omega)⟩
            refine ⟨by simp, .inl ⟨_, _, rfl, run_takeDeferred d3, ⟨by simp, .inl ⟨_, _, rfl, run_takeDeferred d0', ?_⟩⟩⟩⟩
            exact ⟨_, results_tmp rfl _ _ _, rfl, e2⟩
      case stop =>
        rintro c q W ⟨rest, hq⟩ ⟨pre, x, rfl, rfl, hst, hI⟩ hK
        subst hst
        have hlL : pre.length + 1 ≤ nL := by
          have := congrArg List.length hq
          rw [HNL.out] at this
          simp at this; omega
        have hkL : pre.map (·.e) = S.L.take pre.length := by
          rw [hq, List.map_append, List.append_assoc, List.take_append_of_le_length (by simp), List.take_of_length_le (by simp)]
        have hle : pre.length ≤ nL := by omega
        have hltz : (pre.length : Int) < (nL : Int) := by omega
        clear hq
        refine wpIn_wide.2 ?_
        obtain ⟨hKp, ⟨F1, G1, V1, v1, U1, vg, hRg⟩, hj, hlo, hBl⟩ := hI
        obtain ⟨ag, cg, rfl⟩ := owns_form9 hRg.tl.row
        have hszW := hKp.1
        have hL1 := HL1.out
        have hfl := HFl.out
        have hbx : ∀ (y : Nat × Obj), y ∈ [(w.heap.size, Obj.cells #[.int .i64 (pre.length : Int)] 3 (0, 0)), (w1.heap.size, Obj.cells #[.pointer (some ⟨b, 0, none⟩)] 22 (0, 0)), (w1.heap.size + 1, Obj.cells #[.pointer (some ⟨p, 0, none⟩)] 23 (0, 0))] → W.heap[y.1]? = some y.2 := fun y hy => by
          have h2 := HC0.out.bx y hy
          have h4 : y.1 ≤ w1.heap.size + 1 := by
            simp only [List.mem_cons, List.not_mem_nil, or_false] at hy
            rcases hy with rfl | rfl | rfl
            · show w.heap.size ≤ _; omega
            · show w1.heap.size ≤ _; omega
            · exact Nat.le_refl _
          have h3 := HFine.out y.1 (block_lt h2.1) (by omega) h2.2
          exact (hKp.2 _ h3).1.trans h2.1
        have c5 : W.cell? ⟨w.heap.size, 0, none⟩ = some (.int .i64 (pre.length : Int)) := (blk_at (hbx _ (List.mem_cons_self ..)) 0).trans rfl
        have hpb : W.heap[w1.heap.size + 1]? = some (.cells #[.pointer (some ⟨p, 0, none⟩)] 23 (0, 0)) := hbx _ (List.mem_cons_of_mem _ (List.mem_cons_of_mem _ (List.mem_cons_self ..)))
        have hcb : W.heap[w4.heap.size]? = some (.cells #[.pointer (some ⟨b, 0, none⟩)] 22 (0, 0)) := (hKp.2 _ (HFine.out _ (by omega) (by omega) (fun e => by have := Hfp.out _ e; omega))).1.trans HX0.out.a
        have cB : W.cell? ⟨w4.heap.size + 1, 0, none⟩ = some (.slice ag pre.length cg) := hRg.bx.cell
        have hOw : W.ownsRow wr.heap.size TEn 9 (.slice aw nL cw) nL (S.L.flatMap fun e => vcl (U e.id)) := row_same (w := W0) (row_later HO4.out HX0.out.bel) (fun g hg => (hKp.2 _ (HFine.out g (row_lt (row_later HO4.out HX0.out.bel) g hg).1 (fun e => by have := (row_lt HO4.out g hg).1; omega) (fun e => by have := Hfp.out _ e; have := (row_lt HO4.out g hg).2.1; omega))).1)
        have hPv : ∀ e ∈ S.L, PV W G (U e.id) e := fun e he => (HC0.out.pr.r.pv e he).same (fun g hg => (hKp.2 _ (fineG HC0.out.pr hBx hBn hg)).1)
        have HBR : Hid (BR W aw (S.L.take pre.length)) := br_want hOw hPv (fun g hg => by have := HC0.out.pr.r.lt g hg; omega) HNL.out
        have hcap : nL ≤ cw ∧ cw ≤ 9223372036854775807 := own_cap HO4.out
        have htk : (S.L.take pre.length).length = pre.length := by rw [List.length_take, HNL.out]; omega
        have HTk : Hid _ := htk
        have HSm : Hid _ := sameEnsF (bc := cw) (S.L.take pre.length) hRg.tl hkL HBR.out (by rw [htk]; omega) HTk
        have hcapz : (pre.length : Int) ≤ (cw : Int) := by omega
        have HRg : Hid _ := hRg
        have HD : Hid (W.heap[W0.heap.size]? = some (.deferred (some [])) ∧ W.heap[w1.heap.size + 1]? = some (.cells #[.pointer (some ⟨p, 0, none⟩)] 23 (0, 0)) ∧ W.heap[w4.heap.size]? = some (.cells #[.pointer (some ⟨b, 0, none⟩)] 22 (0, 0)) ∧ Below w.heap.size w W ∧ (∀ y ∈ pre, W0.heap.size + 2 ≤ y.lo) ∧ W0.heap.size ≤ W.heap.size) := ⟨hK, hpb, hcb, hBl, hlo, hszW⟩
        have HSz : Hid (w1.heap.size + 1 < w4.heap.size ∧ w.heap.size ≤ w4.heap.size ∧ W0.heap.size = w4.heap.size + 2) := ⟨by omega, by omega, hs0⟩
        clear hKp hRg hj hlo hBl hszW hL1 hfl hbx hpb hcb hOw hPv htk hkL hK hs0 hw4 hwr hBx hBn hpl
        go_wp2_with fail
        refine Calls.mono HSm.out ?_
        rintro r2 W2 ⟨rfl, hk2⟩
        have hnt : ∀ g, g < W0.heap.size + 2 → ¬ told pre g := fun g hg ⟨y, hy, h1, _⟩ => by have := HD.out.2.2.2.2.1 y hy; omega
        have HP2 : Hid _ := HRg.out.p2.keep hk2 (fun g hg => (HRg.out.ap g hg).1)
        have HE2 : Hid (W2.heap[W0.heap.size]? = some (.deferred (some [])) ∧ W2.heap[w1.heap.size + 1]? = some (.cells #[.pointer (some ⟨p, 0, none⟩)] 23 (0, 0)) ∧ W2.heap[w4.heap.size]? = some (.cells #[.pointer (some ⟨b, 0, none⟩)] 22 (0, 0)) ∧ Below w.heap.size w W2 ∧ W0.heap.size < W2.heap.size ∧ w1.heap.size + 1 < W2.heap.size ∧ w4.heap.size < W2.heap.size ∧ w.heap.size ≤ W2.heap.size) := by
          have h1 := HSz.out
          have h2 := HD.out
          have a1 := block_lt h2.1
          have a2 := hk2.size
          refine ⟨(hk2.block _ a1 (hnt _ (by omega))).trans h2.1, (hk2.block _ (by omega) (hnt _ (by omega))).trans h2.2.1, (hk2.block _ (by omega) (hnt _ (by omega))).trans h2.2.2.1, h2.2.2.2.1.trans (hk2.below (by omega) (fun g hg => hnt g (by omega))), by omega, by omega, by omega, by omega⟩
        clear hk2 hnt HD HRg HSm HBR cB c5
        go_wp2
        obtain ⟨W3, hW3⟩ : ∃ W3, W3 = W2.alloc (.cells #[.slice none 0 0] TEns) := ⟨_, rfl⟩
        have bO : Boxed W3 W2.heap.size TEns (.slice none 0 0) := by rw [hW3]; exact Boxed.new W2 TEns _
        have hs3 : W3.heap.size = W2.heap.size + 1 := by rw [hW3]; simp
        have hB3 : Below W2.heap.size W2 W3 := by rw [hW3]; exact below1 W2 _
        have HP3 : Hid _ := HP2.out.later hB3
        have hdl : (drp S pre.length).L.length ≤ 64 := by have := HP2.out.t.ok.len; have := HP2.out.t.ok.m2; omega
        have hseq2 := seq_allW 3 (by omega) (keepsE W3.heap.size W2.heap.size) (w := W3) (po := some ⟨b, 0, none⟩) (F := F1) (V := V1) (drp S pre.length).L (fun W hW => sorted_any (HP3.out.t.later hW)) ((blk_at ((hB3.block _ HE2.out.2.2.2.2.2.2.1).trans HE2.out.2.2.1) 0).trans rfl) (by have := HE2.out.2.2.2.2.2.2.1; omega) HP3.out.t.pv HP3.out.t.lt hdl (fun X w1 k hb hsz hb2 hk hk2 => fineE_new bO hs3 hb hsz hb2 hk hk2) (fun g hg X hb hsz => fineE_old bO hs3 (HP2.out.t.lt g hg) hb hsz)
        rw [← hW3]
        clear hW3
        refine (wpIn_wide (n := 4)).1 ?_
        refine wpIn_rangeW rfl (by omega) (gf := 43) (lb := #[.pointer (some ⟨w4.heap.size, 0, none⟩)]) rfl f2 (enters_of Try.func43 (by kernel_rfl) rfl) hseq2 kpE_t (fun X r r' _ => kpE_put (by omega) X _) (Below.refl _ _) (fun _ => rfl)
          (I2 W2 W3) (fun _ _ _ => False) (I2.ab (by omega)) (fun _ => ⟨fun _ _ _ h _ => h, fun _ _ _ _ h _ => h⟩) ⟨⟨_, bO, ⟨⟨rfl, .inl ⟨rfl, rfl⟩⟩, by simp, by simp, by simp⟩⟩, by simp, hB3⟩ ?round2 ?done2 ?stop2
        case stop2 =>
          rintro c q X _ h _
          exact h.elim
        case round2 =>
          rintro qs x Wp X hI hbX hV hlen ⟨rp, hrp⟩ ⟨r, hr⟩ hD
          obtain ⟨⟨vg, hvg, htg⟩, hlg, hBg⟩ := hI
          have hszp : W3.heap.size + 1 < Wp.heap.size := (Array.getElem?_eq_some_iff.1 hrp).1
          have hszX := hbX.size
          obtain ⟨aq, cq, rfl⟩ := owns_form9 htg.row
          have hb1 := below1 X (.cells #[.int .i64 x.e.id, .int .u16 x.e.rq.fl, .int .u16 x.e.rq.ty, .int .u64 x.e.rq.ck, .int .u64 x.e.rq.off, .int .u64 x.e.rq.len, .slice x.da x.e.rq.data.length x.dc, .bool x.e.rd, .slice x.aa x.e.an.length x.ac] TEn)
          have hr1 : (X.alloc (.cells #[.int .i64 x.e.id, .int .u16 x.e.rq.fl, .int .u16 x.e.rq.ty, .int .u64 x.e.rq.ck, .int .u64 x.e.rq.off, .int .u64 x.e.rq.len, .slice x.da x.e.rq.data.length x.dc, .bool x.e.rd, .slice x.aa x.e.an.length x.ac] TEn)).heap[W3.heap.size + 1]? = some (.loop r) := (hb1.block _ (by omega)).trans hr
          obtain ⟨Z, hZ⟩ : ∃ Z : Loop → World, Z = fun r' => (X.alloc (.cells #[.int .i64 x.e.id, .int .u16 x.e.rq.fl, .int .u16 x.e.rq.ty, .int .u64 x.e.rq.ck, .int .u64 x.e.rq.off, .int .u64 x.e.rq.len, .slice x.da x.e.rq.data.length x.dc, .bool x.e.rd, .slice x.aa x.e.an.length x.ac] TEn)).putObj (W3.heap.size + 1) (.loop r') := ⟨_, rfl⟩
          have nc : ∀ cs t fr, (X.alloc (.cells #[.int .i64 x.e.id, .int .u16 x.e.rq.fl, .int .u16 x.e.rq.ty, .int .u64 x.e.rq.ck, .int .u64 x.e.rq.off, .int .u64 x.e.rq.len, .slice x.da x.e.rq.data.length x.dc, .bool x.e.rd, .slice x.aa x.e.an.length x.ac] TEn)).heap[W3.heap.size + 1]? ≠ some (.cells cs t fr) := fun cs t fr h => by rw [hr1] at h; cases h
          have HIz : Hid (∀ r', (Boxed (Z r') W2.heap.size TEns (.slice aq qs.length cq) ∧ Tell (Z r') W2.heap.size (.slice aq qs.length cq) qs) ∧ Below W2.heap.size W2 (Z r') ∧ Ok1 (Z r') x ∧ (Z r').heap[W3.heap.size]? = some (.deferred (some [])) ∧ (Z r').heap[W3.heap.size + 1]? = some (.loop r') ∧ (Z r').heap[X.heap.size]? = some (.cells #[.int .i64 x.e.id, .int .u16 x.e.rq.fl, .int .u16 x.e.rq.ty, .int .u64 x.e.rq.ck, .int .u64 x.e.rq.off, .int .u64 x.e.rq.len, .slice x.da x.e.rq.data.length x.dc, .bool x.e.rd, .slice x.aa x.e.an.length x.ac] TEn (0, 0))) := fun r' => by
            rw [hZ]
            have hbb := hbX.trans (hb1.mono hbX.size)
            have h9 : (X.alloc (.cells #[.int .i64 x.e.id, .int .u16 x.e.rq.fl, .int .u16 x.e.rq.ty, .int .u64 x.e.rq.ck, .int .u64 x.e.rq.off, .int .u64 x.e.rq.len, .slice x.da x.e.rq.data.length x.dc, .bool x.e.rd, .slice x.aa x.e.an.length x.ac] TEn)).heap.size = X.heap.size + 1 := by simp
            have k1 := (hbb.block _ hvg.lt).trans hvg
            refine ⟨⟨(put_cells k1 nc).trans k1, (htg.later hbb).same (by simp) (fun g cs t hc => put_cells hc nc)⟩, (hBg.trans (hbb.mono hBg.size)).trans ⟨rfl, rfl, rfl, by simp, fun k hk => World.putObj_heap_other (by omega)⟩, (hV.v.ok.later hb1).same (by simp) (fun g cs _ _ hc => put_cells hc nc), (World.putObj_heap_other (by omega)).trans ((hb1.block _ (by omega)).trans hD), World.putObj_heap_same (by omega), (World.putObj_heap_other (by omega)).trans (heap_new X _)⟩
          have HXq : Hid (W3.heap.size + 2 ≤ x.lo ∧ (∀ y ∈ qs, y.hi ≤ x.lo) ∧ W2.heap.size ≤ x.lo ∧ W2.heap.size ≠ W3.heap.size ∧ W2.heap.size ≠ W3.heap.size + 1 ∧ W3.heap.size + 1 < X.heap.size) := ⟨by have := hV.new; omega, hV.v.ap, by have := hV.new; omega, by omega, by omega, by omega⟩
          have HQL : Hid (qs.length < 64) := by show qs.length < 64; omega
          have HLg : Hid _ := hlg
          have HB1 : Hid _ := hb1
          clear hvg htg hlg hBg hszp hszX hrp hr hD hb1 hr1 nc hV hlen hs3 hseq2 bO hB3 hdl
          simp only [pcl, ecl]
          gi_wp2
          refine ⟨⟨HB1.out.block _ (by have := HXq.out; omega), HB1.out.block _ (by have := HXq.out; omega)⟩, kpE_below HB1.out, fun r' => ?_⟩
          have hz' : Z r' = (X.alloc (.cells #[.int .i64 x.e.id, .int .u16 x.e.rq.fl, .int .u16 x.e.rq.ty, .int .u64 x.e.rq.ck, .int .u64 x.e.rq.off, .int .u64 x.e.rq.len, .slice x.da x.e.rq.data.length x.dc, .bool x.e.rd, .slice x.aa x.e.an.length x.ac] TEn)).putObj (W3.heap.size + 1) (.loop r') := congrFun hZ r'
          rw [← hz']
          clear hZ hz' HB1
          have HIr : Hid _ := HIz.out r'
          clear HIz
          generalize Z r' = Z1 at *
          clear Z
          have cB := HIr.out.1.1.cell
          have fB := HIr.out.1.1.frozen
          have d0 : Z1.cell? ⟨X.heap.size, 0, none⟩ = some (.int .i64 x.e.id) := (blk_at HIr.out.2.2.2.2.2 0).trans rfl
          have d1 : Z1.cell? ⟨X.heap.size, 1, none⟩ = some (.int .u16 x.e.rq.fl) := (blk_at HIr.out.2.2.2.2.2 1).trans rfl
          have d2 : Z1.cell? ⟨X.heap.size, 2, none⟩ = some (.int .u16 x.e.rq.ty) := (blk_at HIr.out.2.2.2.2.2 2).trans rfl
          have d3 : Z1.cell? ⟨X.heap.size, 3, none⟩ = some (.int .u64 x.e.rq.ck) := (blk_at HIr.out.2.2.2.2.2 3).trans rfl
          have d4 : Z1.cell? ⟨X.heap.size, 4, none⟩ = some (.int .u64 x.e.rq.off) := (blk_at HIr.out.2.2.2.2.2 4).trans rfl
          have d5 : Z1.cell? ⟨X.heap.size, 5, none⟩ = some (.int .u64 x.e.rq.len) := (blk_at HIr.out.2.2.2.2.2 5).trans rfl
          have d6 : Z1.cell? ⟨X.heap.size, 6, none⟩ = some (.slice x.da x.e.rq.data.length x.dc) := (blk_at HIr.out.2.2.2.2.2 6).trans rfl
          have d7 : Z1.cell? ⟨X.heap.size, 7, none⟩ = some (.bool x.e.rd) := (blk_at HIr.out.2.2.2.2.2 7).trans rfl
          have d8 : Z1.cell? ⟨X.heap.size, 8, none⟩ = some (.slice x.aa x.e.an.length x.ac) := (blk_at HIr.out.2.2.2.2.2 8).trans rfl
          gi_wp2_with (first | (gi_at_builtin; refine wpListIn_append_own_at _ rfl _ _ TEns rfl W2.heap.size TEn i0 _ 9 96 Try.underlying61 hi0 hz0 hz1 hz2 rfl (by decide) _ _ _ rfl (HIr.out.1.2.row.alloc _) ⟨Z1.heap.size, 0, none⟩ 1 1 (pcl x) rfl rfl (World.news_of_block (heap_alloc_new Z1 _)) (by simp [Value.oneCell', pcl, ecl]) (by have := HQL.out; unfold maxLen; omega) (by have := HQL.out; omega) (by have := HIr.out.1.1.lt; simp; omega) ?_; intro v2 w6 hown' hgrow hnl hat; have hat2 : v2.ownBlock = (Value.slice aq qs.length cq).ownBlock ∨ v2.ownBlock = some (Z1.heap.size + 1) := (by {rw [World.size_alloc] at hat; exact hat}); clear hnl hat; obtain ⟨g', cap', rfl⟩ := ownsRow_succ hown'; obtain ⟨hv1, hR6, hK6, hT6, hB6⟩ := tell_appended HIr.out.1.1 HIr.out.1.2 x HIr.out.2.2.1 HXq.out.2.2.1 HXq.out.2.1 HIr.out.2.2.2.1 ⟨_, HIr.out.2.2.2.2.1⟩ ⟨HXq.out.2.2.2.1, HXq.out.2.2.2.2.1⟩ hown' hgrow hat2; have hc1 := hv1.cell; have hf1 := hv1.frozen; have HR6 : Hid _ := hR6; have HK6 : Hid _ := hK6; have HT6 : Hid _ := hT6; have HB6 : Hid _ := hB6; clear hv1 hR6 hK6 hT6 hB6 hown' hgrow hat2) | fail)
          refine ⟨HT6.out, HK6.out, ⟨_, HR6.out⟩, fun y hy => ?_, HIr.out.2.1.trans HB6.out⟩
          rcases List.mem_append.1 hy with hy | hy
          · exact HLg.out y hy
          · simp at hy; subst hy; exact HXq.out.1
        case done2 =>
          rintro ys W5 hys ⟨⟨vA, hvA, htA⟩, hlA, hBA⟩ hK5
          obtain ⟨aA, cA, rfl⟩ := owns_form9 htA.row
          have hyl : ys.length = (drp S pre.length).L.length := by rw [← hys, List.length_map]
          obtain ⟨ar, cr, hvr⟩ := owns_form9 HP3.out.r.row
          have HP5 : Hid _ := HP2.out.later hBA
          rw [hvr] at HP5
          obtain ⟨nA, hnA⟩ : ∃ n, (drp S pre.length).L.length = n := ⟨_, rfl⟩
          rw [hyl] at htA hvA
          rw [hnA] at HP5 htA hvA
          have hbd : Below W5.heap.size W5 W5.drew := ⟨rfl, rfl, rfl, Nat.le_refl _, fun _ _ => rfl⟩
          have q0 : W5.cell? ⟨W2.heap.size, 0, none⟩ = some (.slice aA nA cA) := hvA.cell
          have q1 : W5.cell? ⟨w1.heap.size + 1, 0, none⟩ = some (.pointer (some ⟨p, 0, none⟩)) := (blk_at ((hBA.block _ HE2.out.2.2.2.2.2.1).trans HE2.out.2.1) 0).trans rfl
          have q2 : W5.cell? ⟨p, 2, none⟩ = some (.slice ar nA cr) := (HP5.out.r.c 2).trans rfl
          have HA : Hid _ := sameEnsF (bc := cr) (drp S pre.length).L (htA.later hbd) hys (HP5.out.later hbd).r.br hdl hnA
          have HE5 : Hid (W5.heap[W3.heap.size]? = some (.deferred (some [])) ∧ (∀ g, g < W3.heap.size + 2 → ¬ told ys g) ∧ Below W2.heap.size W2 W5 ∧ W2.heap.size ≤ W3.heap.size) := ⟨hK5, fun g hg ⟨y, hy, h1, _⟩ => by have := hlA y hy; omega, hBA, by omega⟩
          have HNo : Hid (∀ X, KeptIn (told ys) W5.drew X → X.cell? ⟨W2.heap.size, 0, none⟩ = some (.slice aA nA cA) ∧ X.cell? ⟨w1.heap.size + 1, 0, none⟩ = some (.pointer (some ⟨p, 0, none⟩)) ∧ X.cell? ⟨p, 2, none⟩ = some (.slice ar nA cr)) := fun X hX => by
            have h1 := HE5.out
            have h2 := HE2.out
            have h3 := hBA.size
            have hb : ∀ g, g < W3.heap.size + 2 → g < W5.heap.size → X.heap[g]? = W5.heap[g]? := fun g hg hg2 => hX.block g hg2 (h1.2.1 g hg)
            have h4 : p < W2.heap.size := HP2.out.r.ltp
            exact ⟨(cell_block (hb _ (by omega) hvA.lt)).trans q0, (cell_block (hb _ (by omega) (by omega))).trans q1, (cell_block (hb _ (by omega) (by omega))).trans q2⟩
          clear hvA htA hlA hBA hK5 hyl hvr hnA hbd hs3 hseq2 bO hB3 hdl hys
          go_wp2
          go_region_held3 (fun w' => w'.cell? ⟨W2.heap.size, 0, none⟩ = some (.slice aA nA cA) ∧ w'.cell? ⟨w1.heap.size + 1, 0, none⟩ = some (.pointer (some ⟨p, 0, none⟩)) ∧ w'.cell? ⟨p, 2, none⟩ = some (.slice ar nA cr)) (first | exact HNo.out _ HB9.out | go_keep) (first | (go_at_call 30; refine Calls.mono HA.out ?_; rintro r w9 ⟨rfl, hb9⟩; have HB9 : Hid _ := hb9; clear hb9) | fail)
          go_wp2
          have h1 := HE5.out
          have h2 := HE2.out
          have h9 := HB9.out
          have h3 : W5.heap.size ≤ w9.heap.size := h9.size
          have hw3 : W3.heap.size < W5.heap.size := block_lt h1.1
          have d3 : w9.heap[W3.heap.size]? = some (.deferred (some [])) := (h9.block _ hw3 (h1.2.1 _ (by omega))).trans h1.1
          have d0 : w9.heap[W0.heap.size]? = some (.deferred (some [])) := (h9.block _ (by show W0.heap.size < W5.heap.size; omega) (h1.2.1 _ (by omega))).trans ((h1.2.2.1.block _ h2.2.2.2.2.1).trans h2.1)
          have d0' : (w9.putObj W3.heap.size (.deferred none)).heap[W0.heap.size]? = some (.deferred (some [])) := (World.putObj_heap_other (by omega)).trans d0
          have hsz0 := HSz.out
          have hbe : Below w.heap.size w w9 := h2.2.2.2.1.trans ((h1.2.2.1.mono (by omega)).trans ⟨h9.os, h9.tape, h9.output, h9.size, fun g hg => h9.block g (by show g < W5.heap.size; omega) (h1.2.1 g (by omega))⟩)
          have e1 : Below w.heap.size w (w9.putObj W3.heap.size (.deferred none)) := hbe.trans ⟨rfl, rfl, rfl, by simp, fun k hk => World.putObj_heap_other (by omega)⟩
          have e2 : Below w.heap.size w ((w9.putObj W3.heap.size (.deferred none)).putObj W0.heap.size (.deferred none)) := e1.trans ⟨rfl, rfl, rfl, by simp, fun k hk => World.putObj_heap_other (by omega)⟩
          refine ⟨by simp, .inl ⟨_, _, rfl, run_takeDeferred d3, ⟨by simp, .inl ⟨_, _, rfl, run_takeDeferred d0', ?_⟩⟩⟩⟩
          exact ⟨_, results_tmp rfl _ _ _, rfl, e2⟩
theorem lawRanges (w : World) (most stop : Int) (ao : Option Addr) (n cap : Nat) (os : List OpF) (HN : Hid (os.length = n)) (hs : Scr w w.heap.size ao os) : Calls Try.prog 8 #[.int .i64 most, .slice ao n cap, .int .i64 stop] w fun r w' => r = .returned (.bool true) ∧ Below w.heap.size w w' := by
  by_cases hm : most < 1 ∨ 64 < most
  · exact ranges_bad w most stop hm _
  · obtain ⟨m, rfl⟩ : ∃ m : Nat, most = m := ⟨most.toNat, by omega⟩
    exact ranges_any w m (by omega) (by omega) stop ao n cap os HN hs
end Go.Proofs.Ytoabigjajnikcaa.X
