import Derived.Test.YtefgdhoapmikhaaDoorRtR
import Derived.Test.YtefgdhoapmikhaaDoorRtS
import Derived.Test.YtefgdhoapmikhaaDoorRtM
import Derived.Test.YtefgdhoapmikhaaDoorRtJ
import Derived.Test.YtefgdhoapmikhaaDoorRpUh
import Derived.Test.YtefgdhoapmikhaaDoorRpDc
import Derived.Deep.DeepCutAuto
import Derived.Deep.CutRange
import Derived.Deep.RegionHeld3
import Derived.Deep.AppendLies
namespace Go.Proofs.YtefgdhoapmikhaaDoor
open Go.RowKit
set_option linter.unusedVariables false
set_option linter.unusedSimpArgs false
set_option maxRecDepth 100000
theorem infoPc : (Tryd.prog.info? 62).map (fun i => (i.zero, i.size, i.bytes)) = some (some (.agg #[.int .u64 0, .int .u32 0, .bool false, .slice none 0 0]), 4, 40) := by kernel_rfl
set_option maxHeartbeats 100000000 in
theorem replyTells_any (st ex : Bool) (fl ty0 ck off len0 : Nat) (d : Value) (po : Option Addr) (pn pc : Nat) (w : World) (P0 : List Pc) (hP : PRow w po P0) (HN : Hid (P0.length = pn)) (HD0 : Hid (∀ p ∈ P0, ∃ m : List Nat, m.length = p.n ∧ BRow w p.ao p.cap m)) (hsum : (P0.map fun o => o.n + 5).sum ≤ 1048576) (hfl : fl < 65536) (hck : ck < 18446744073709551616) (hoff : off < 18446744073709551616) :
    Calls Tryd.prog 5 #[.bool st, .bool ex, .agg #[.int .u16 (fl : Int), .int .u16 (ty0 : Int), .int .u64 (ck : Int), .int .u64 (off : Int), .int .u64 (len0 : Int), d], .slice po pn pc] w fun e w' => e = .returned (.bool true) ∧ Below w.heap.size w w' := by
  have hpn : pn ≤ 1048576 := by rw [← HN.out]; exact hP.len
  have HP : Hid (PRow w po P0) := hP
  have HS : Hid ((P0.map fun o => o.n + 5).sum ≤ 1048576) := hsum
  obtain ⟨i5, hi5, hz50, hz51, hz52⟩ := info_parts Tryd.info5
  obtain ⟨i6, hi6, hz60, hz61, hz62⟩ := info_parts infoPc
  clear hP hsum
  go_enter Tryd.func5, Tryd.ntmps5
  go_wp2
  have h0 := TI.new w fl ck off d P0
  generalize ((w.alloc (Obj.cells #[.int .u16 (fl : Int), .int .u16 0, .int .u64 (ck : Int), .int .u64 (off : Int), .int .u64 0, d] 29)).alloc (Obj.cells #[.int .u32 0, .bool false, .int .u64 0, .slice none 0 0, .slice none 0 0] 34)) = W0 at *
  have H0 : Hid _ := h0
  clear h0
  go_loopw [10, 11] (fun wv i wr => ∃ (k : Nat) (Q : List (Pc × List Nat)) (L : Nat) (wo : Option Addr) (wcap : Nat) (qo : Option Addr) (qn qc : Nat), k ≤ pn ∧ i = .int .i64 (k : Int) ∧ wv = .slice wo L wcap ∧ Hid (TI w wr fl ck off d k P0 Q L wo wcap qo qn qc)) (fun _ i _ => pn - (intOf i).toNat)
  case atStart => exact ⟨0, [], 0, none, 0, none, 0, 0, Nat.zero_le _, rfl, rfl, H0.out⟩
  case round =>
    obtain ⟨k, Q, L, wo, wcap, qo, qn, qc, hk, rfl, rfl, HT⟩ := hrel
    clear H0
    by_cases hlt : k < pn
    · as_aux_lemma =>
        have hkl : k < P0.length := by rw [HN.out]; exact hlt
        obtain ⟨b0, o0, hpo, hjunk⟩ := HP.out.at_ (fun h0 => by rw [h0] at hkl; simp at hkl)
        subst hpo
        clear hjunk
        have hkz : (k : Int) < (pn : Int) := by omega
        have hkn : ¬ (k : Int) < 0 := by omega
        have hrow : PRow wr (some ⟨b0, o0, none⟩) P0 := HP.out.later HT.out.tl.bel
        have g0 := hrow.cell b0 o0 rfl k hkl 0 (by decide)
        have g1 := hrow.cell b0 o0 rfl k hkl 1 (by decide)
        have g2 := hrow.cell b0 o0 rfl k hkl 2 (by decide)
        have g3 := hrow.cell b0 o0 rfl k hkl 3 (by decide)
        have hok := hrow.ok _ (List.getElem_mem hkl)
        have hda := HD0.out _ (List.getElem_mem hkl)
        have HSs : Hid _ := sum_step P0 k hkl
        have HSl : Hid _ := sum_take P0 (k + 1)
        generalize hp : P0[k] = p at *
        clear hp
        obtain ⟨mm, hmm, hbr⟩ := hda
        obtain ⟨o, l, ho, ao, m, cp⟩ := p
        obtain ⟨k1, k2, k3⟩ := hok
        simp only at k1 k2 k3 hmm hbr HSs
        simp only [Pc.cells] at g0 g1 g2 g3
        simp at g0 g1 g2 g3
        have HBr : Hid (BRow wr ao cp mm ∧ mm.length = m) := ⟨hbr.later HT.out.tl.bel, hmm⟩
        have HPb : Hid ((Value.slice qo qn qc).ownBlock ≠ some wr.heap.size) := fun e => by have := (owns_ltK HT.out.tl.pw _ e).1; omega
        have HBg : Hid (w.heap.size ≤ wr.heap.size) := HT.out.tl.bel.size
        have hmS : m ≤ 1048576 := by have := HSl.out; have := HSs.out; have := HS.out; omega
        have hLb : L ≤ 1048576000 := by have := HT.out.le; have := HSl.out; have := HSs.out; have := HS.out; omega
        clear hrow hbr hmm
        go_wp2_with fail
        have H1 : Hid ((Tl w (wr.alloc (Obj.cells #[.int .u64 (o : Int), .int .u32 (l : Int), .bool ho, .slice ao m cp] 62)) #[.int .u16 (fl : Int), .int .u16 0, .int .u64 (ck : Int), .int .u64 (off : Int), .int .u64 (L : Int), d] #[.int .u32 0, .bool false, .int .u64 0, .slice qo qn qc, .slice none 0 0] (.slice wo L wcap) (rowQ Q) (.slice qo qn qc) (Q.map (·.1)) (Q.map fun q => (q.1.ao, q.1.cap, q.2)) ∧ (wr.alloc (Obj.cells #[.int .u64 (o : Int), .int .u32 (l : Int), .bool ho, .slice ao m cp] 62)).heap[wr.heap.size]? = some (.cells #[.int .u64 (o : Int), .int .u32 (l : Int), .bool ho, .slice ao m cp] 62 (0, 0))) ∧ BRow (wr.alloc (Obj.cells #[.int .u64 (o : Int), .int .u32 (l : Int), .bool ho, .slice ao m cp] 62)) ao cp mm) := ⟨⟨HT.out.tl.later (below1 wr _), heap_new wr _⟩, HBr.out.1.later (below1 wr _)⟩
        clear g0 g1 g2 g3
        generalize (wr.alloc (Obj.cells #[.int .u64 (o : Int), .int .u32 (l : Int), .bool ho, .slice ao m cp] 62)) = W1 at *
        refine (copyA ao cp m mm W1 H1.out.2 HBr.out.2).mono ?_
        rintro e W2 ⟨ao2, cap2, rfl, ho2, hb2⟩
        have H2 : Hid (Tl w W2 #[.int .u16 (fl : Int), .int .u16 0, .int .u64 (ck : Int), .int .u64 (off : Int), .int .u64 (L : Int), d] #[.int .u32 0, .bool false, .int .u64 0, .slice qo qn qc, .slice none 0 0] (.slice wo L wcap) (rowQ Q) (.slice qo qn qc) (Q.map (·.1)) ((Q.map fun q => (q.1.ao, q.1.cap, q.2)) ++ [(ao2, cap2, mm)]) ∧ W2.heap[wr.heap.size]? = some (.cells #[.int .u64 (o : Int), .int .u32 (l : Int), .bool ho, .slice ao m cp] 62 (0, 0))) := ⟨H1.out.1.1.data hb2 ao2 cap2 mm HBr.out.1.lt (by rw [HBr.out.2]; exact ho2), box_later H1.out.1.2 hb2⟩
        clear H1 ho2 hb2
        have c0 : W2.cell? ⟨wr.heap.size, 0, none⟩ = some (.int .u64 (o : Int)) := by rw [blk_at H2.out.2]; rfl
        have y0 : W2.frozen? ⟨wr.heap.size, 0, none⟩ = false := blk_free H2.out.2 0
        have c1 : W2.cell? ⟨wr.heap.size, 1, none⟩ = some (.int .u32 (l : Int)) := by rw [blk_at H2.out.2]; rfl
        have y1 : W2.frozen? ⟨wr.heap.size, 1, none⟩ = false := blk_free H2.out.2 1
        have c2 : W2.cell? ⟨wr.heap.size, 2, none⟩ = some (.bool ho) := by rw [blk_at H2.out.2]; rfl
        have y2 : W2.frozen? ⟨wr.heap.size, 2, none⟩ = false := blk_free H2.out.2 2
        have c3 : W2.cell? ⟨wr.heap.size, 3, none⟩ = some (.slice ao m cp) := by rw [blk_at H2.out.2]; rfl
        have y3 : W2.frozen? ⟨wr.heap.size, 3, none⟩ = false := blk_free H2.out.2 3
        go_upto_region 10 with fail
        have H3 : Hid (Tl w (W2.setCell ⟨wr.heap.size, 3, none⟩ (.slice ao2 m cap2)) #[.int .u16 (fl : Int), .int .u16 0, .int .u64 (ck : Int), .int .u64 (off : Int), .int .u64 (L : Int), d] #[.int .u32 0, .bool false, .int .u64 0, .slice qo qn qc, .slice none 0 0] (.slice wo L wcap) (rowQ Q) (.slice qo qn qc) (Q.map (·.1)) ((Q.map fun q => (q.1.ao, q.1.cap, q.2)) ++ [(ao2, cap2, mm)]) ∧ (W2.setCell ⟨wr.heap.size, 3, none⟩ (.slice ao2 m cap2)).heap[wr.heap.size]? = some (.cells #[.int .u64 (o : Int), .int .u32 (l : Int), .bool ho, .slice ao2 m cap2] 62 (0, 0))) := ⟨H2.out.1.other H2.out.2 HPb.out HBg.out (keptIn_set _ _ _ _), put_boxX H2.out.2 3 _ rfl⟩
        clear c0 y0 c1 y1 c2 y2 c3 y3
        generalize W2.setCell ⟨wr.heap.size, 3, none⟩ (.slice ao2 m cap2) = W3 at *
        clear H2
        have c0 : W3.cell? ⟨wr.heap.size, 0, none⟩ = some (.int .u64 (o : Int)) := by rw [blk_at H3.out.2]; rfl
        have y0 : W3.frozen? ⟨wr.heap.size, 0, none⟩ = false := blk_free H3.out.2 0
        have c1 : W3.cell? ⟨wr.heap.size, 1, none⟩ = some (.int .u32 (l : Int)) := by rw [blk_at H3.out.2]; rfl
        have y1 : W3.frozen? ⟨wr.heap.size, 1, none⟩ = false := blk_free H3.out.2 1
        have c2 : W3.cell? ⟨wr.heap.size, 2, none⟩ = some (.bool ho) := by rw [blk_at H3.out.2]; rfl
        have y2 : W3.frozen? ⟨wr.heap.size, 2, none⟩ = false := blk_free H3.out.2 2
        have c3 : W3.cell? ⟨wr.heap.size, 3, none⟩ = some (.slice ao2 m cap2) := by rw [blk_at H3.out.2]; rfl
        have y3 : W3.frozen? ⟨wr.heap.size, 3, none⟩ = false := blk_free H3.out.2 3
        rcases ho with _ | _
        · as_aux_lemma =>
            have hm5 : (m : Int) % 4294967296 = (m : Int) := by omega
            go_upto_region 15 with fail
            have H4 : Hid (Tl w (W3.setCell ⟨wr.heap.size, 1, none⟩ (.int .u32 (m : Int))) #[.int .u16 (fl : Int), .int .u16 0, .int .u64 (ck : Int), .int .u64 (off : Int), .int .u64 (L : Int), d] #[.int .u32 0, .bool false, .int .u64 0, .slice qo qn qc, .slice none 0 0] (.slice wo L wcap) (rowQ Q) (.slice qo qn qc) (Q.map (·.1)) ((Q.map fun q => (q.1.ao, q.1.cap, q.2)) ++ [(ao2, cap2, mm)]) ∧ (W3.setCell ⟨wr.heap.size, 1, none⟩ (.int .u32 (m : Int))).heap[wr.heap.size]? = some (.cells #[.int .u64 (o : Int), .int .u32 (m : Int), .bool false, .slice ao2 m cap2] 62 (0, 0))) := ⟨H3.out.1.other H3.out.2 HPb.out HBg.out (keptIn_set _ _ _ _), put_boxX H3.out.2 1 _ rfl⟩
            clear c0 y0 c1 y1 c2 y2 c3 y3
            generalize W3.setCell ⟨wr.heap.size, 1, none⟩ (.int .u32 (m : Int)) = W4 at *
            clear H3
            have c0 : W4.cell? ⟨wr.heap.size, 0, none⟩ = some (.int .u64 (o : Int)) := by rw [blk_at H4.out.2]; rfl
            have y0 : W4.frozen? ⟨wr.heap.size, 0, none⟩ = false := blk_free H4.out.2 0
            have c1 : W4.cell? ⟨wr.heap.size, 1, none⟩ = some (.int .u32 (m : Int)) := by rw [blk_at H4.out.2]; rfl
            have y1 : W4.frozen? ⟨wr.heap.size, 1, none⟩ = false := blk_free H4.out.2 1
            have c2 : W4.cell? ⟨wr.heap.size, 2, none⟩ = some (.bool false) := by rw [blk_at H4.out.2]; rfl
            have y2 : W4.frozen? ⟨wr.heap.size, 2, none⟩ = false := blk_free H4.out.2 2
            have c3 : W4.cell? ⟨wr.heap.size, 3, none⟩ = some (.slice ao2 m cap2) := by rw [blk_at H4.out.2]; rfl
            have y3 : W4.frozen? ⟨wr.heap.size, 3, none⟩ = false := blk_free H4.out.2 3
            have hbd : BRow W4 ao2 cap2 mm := brow_own (B := w.heap.size) (n := m) (by have := (H4.out.1.dat (ao2, cap2, mm) (by simp)).1; simp only [HBr.out.2] at this; exact this) HBr.out.2 HBr.out.1.lt HBr.out.1.len
            have HBd : Hid _ := hbd
            clear hbd
            go_wp2_with (at_builtin; refine wpList_append_two _ rfl _ _ 27 rfl w.heap.size 5 i5 (.int .u8 0) 1 Tryd.underlying27 hi5 hz50 hz51 hz52 rfl (.slice wo L wcap) L ((rowQ Q).map bv) rfl (by have := H4.out.1.ww; rwa [HT.out.len] at this) ao2 m cap2 (mm.map bv) rfl (by have := HBd.out.nil'; rwa [HBr.out.2] at this) (by rw [List.length_map]; exact HBr.out.2) HBd.out.news (bv_one mm) (by unfold maxLen; omega) (by omega) H4.out.1.bel.size ?_)
            intro v6 W6 ho6 hg6 hf6
            obtain ⟨wo6, wc6, rfl⟩ := owns_form ho6
            have hlen6 : (rowQ Q ++ mm).length = L + m := by rw [List.length_append, HT.out.len, HBr.out.2]
            have H6 : Hid (Tl w W6 #[.int .u16 (fl : Int), .int .u16 0, .int .u64 (ck : Int), .int .u64 (off : Int), .int .u64 (L : Int), d] #[.int .u32 0, .bool false, .int .u64 0, .slice qo qn qc, .slice none 0 0] (.slice wo6 (L + m) wc6) (rowQ Q ++ mm) (.slice qo qn qc) (Q.map (·.1)) ((Q.map fun q => (q.1.ao, q.1.cap, q.2)) ++ [(ao2, cap2, mm)]) ∧ W6.heap[wr.heap.size]? = some (.cells #[.int .u64 (o : Int), .int .u32 (m : Int), .bool false, .slice ao2 m cap2] 62 (0, 0))) := ⟨H4.out.1.grow HBr.out.1.lt (by rw [hlen6, List.map_append]; exact ho6) hg6 hf6, boxT H4.out.2 H4.out.1.ww (by decide) hg6⟩
            clear H4 ho6 hg6 hf6 HBd
            clear c0 y0 c1 y1 c2 y2 c3 y3
            have c0 : W6.cell? ⟨wr.heap.size, 0, none⟩ = some (.int .u64 (o : Int)) := by rw [blk_at H6.out.2]; rfl
            have y0 : W6.frozen? ⟨wr.heap.size, 0, none⟩ = false := blk_free H6.out.2 0
            have c1 : W6.cell? ⟨wr.heap.size, 1, none⟩ = some (.int .u32 (m : Int)) := by rw [blk_at H6.out.2]; rfl
            have y1 : W6.frozen? ⟨wr.heap.size, 1, none⟩ = false := blk_free H6.out.2 1
            have c2 : W6.cell? ⟨wr.heap.size, 2, none⟩ = some (.bool false) := by rw [blk_at H6.out.2]; rfl
            have y2 : W6.frozen? ⟨wr.heap.size, 2, none⟩ = false := blk_free H6.out.2 2
            have c3 : W6.cell? ⟨wr.heap.size, 3, none⟩ = some (.slice ao2 m cap2) := by rw [blk_at H6.out.2]; rfl
            have y3 : W6.frozen? ⟨wr.heap.size, 3, none⟩ = false := blk_free H6.out.2 3
            have r3 : W6.cell? ⟨w.heap.size, 3, none⟩ = some (.int .u64 (off : Int)) := by rw [blk_at H6.out.1.rb]; rfl
            have r4 : W6.cell? ⟨w.heap.size, 4, none⟩ = some (.int .u64 (L : Int)) := by rw [blk_at H6.out.1.rb]; rfl
            have f4 : W6.frozen? ⟨w.heap.size, 4, none⟩ = false := blk_free H6.out.1.rb 4
            by_cases hz : m = 0
            · have hzz : ((m : Nat) : Int) = 0 := by omega
              have HTn : Hid (TI w W6 fl ck off d (k + 1) P0 Q (L + m) wo6 wc6 qo qn qc) := TI_zero HT.out (H6.out.1) hz HBr.out.2 (by rw [HSs.out]; omega)
              clear H6
              go_wp2
              go_roundw
              case rel => exact ⟨k + 1, Q, L + m, wo6, wc6, qo, qn, qc, by omega, by go_num, rfl, HTn.out⟩
              case measure => simp [intOf]; omega
            · have hzb : (((m : Nat) : Int) == 0) = false := by rw [beq_eq_false_iff_ne]; omega
              have hzz : ¬ ((m : Nat) : Int) = 0 := by omega
              obtain ⟨o7, ho7, ho7b, ho7c⟩ : ∃ o7 : Nat, IntKind.u64.wrap ((off : Int) + (L : Int)) = (o7 : Int) ∧ o7 < 18446744073709551616 ∧ (off ≤ 9223372036854775808 → o7 = off + L) := ⟨(off + L) % 18446744073709551616, by rw [IntKind.wrap_u64]; omega, by omega, by omega⟩
              go_upto_region 18 with fail
              have H7 : Hid (Tl w (W6.setCell ⟨wr.heap.size, 0, none⟩ (.int .u64 (o7 : Int))) #[.int .u16 (fl : Int), .int .u16 0, .int .u64 (ck : Int), .int .u64 (off : Int), .int .u64 (L : Int), d] #[.int .u32 0, .bool false, .int .u64 0, .slice qo qn qc, .slice none 0 0] (.slice wo6 (L + m) wc6) (rowQ Q ++ mm) (.slice qo qn qc) (Q.map (·.1)) ((Q.map fun q => (q.1.ao, q.1.cap, q.2)) ++ [(ao2, cap2, mm)]) ∧ (W6.setCell ⟨wr.heap.size, 0, none⟩ (.int .u64 (o7 : Int))).heap[wr.heap.size]? = some (.cells #[.int .u64 (o7 : Int), .int .u32 (m : Int), .bool false, .slice ao2 m cap2] 62 (0, 0))) := ⟨H6.out.1.other H6.out.2 HPb.out HBg.out (keptIn_set _ _ _ _), put_boxX H6.out.2 0 _ rfl⟩
              clear c0 y0 c1 y1 c2 y2 c3 y3
              clear r3 r4 f4
              generalize W6.setCell ⟨wr.heap.size, 0, none⟩ (.int .u64 (o7 : Int)) = W7 at *
              clear H6
              have c0 : W7.cell? ⟨wr.heap.size, 0, none⟩ = some (.int .u64 (o7 : Int)) := by rw [blk_at H7.out.2]; rfl
              have y0 : W7.frozen? ⟨wr.heap.size, 0, none⟩ = false := blk_free H7.out.2 0
              have c1 : W7.cell? ⟨wr.heap.size, 1, none⟩ = some (.int .u32 (m : Int)) := by rw [blk_at H7.out.2]; rfl
              have y1 : W7.frozen? ⟨wr.heap.size, 1, none⟩ = false := blk_free H7.out.2 1
              have c2 : W7.cell? ⟨wr.heap.size, 2, none⟩ = some (.bool false) := by rw [blk_at H7.out.2]; rfl
              have y2 : W7.frozen? ⟨wr.heap.size, 2, none⟩ = false := blk_free H7.out.2 2
              have c3 : W7.cell? ⟨wr.heap.size, 3, none⟩ = some (.slice ao2 m cap2) := by rw [blk_at H7.out.2]; rfl
              have y3 : W7.frozen? ⟨wr.heap.size, 3, none⟩ = false := blk_free H7.out.2 3
              have r4 : W7.cell? ⟨w.heap.size, 4, none⟩ = some (.int .u64 (L : Int)) := by rw [blk_at H7.out.1.rb]; rfl
              have f4 : W7.frozen? ⟨w.heap.size, 4, none⟩ = false := blk_free H7.out.1.rb 4
              go_upto_region 19 with fail
              obtain ⟨L8, hL8, hL8e⟩ : ∃ L8 : Nat, (L : Int) + ((m : Nat) : Int) = (L8 : Int) ∧ L8 = L + m := ⟨L + m, by omega, rfl⟩
              have H8 : Hid (Tl w (W7.setCell ⟨w.heap.size, 4, none⟩ (.int .u64 ((L : Int) + ((m : Nat) : Int)))) #[.int .u16 (fl : Int), .int .u16 0, .int .u64 (ck : Int), .int .u64 (off : Int), .int .u64 (L8 : Int), d] #[.int .u32 0, .bool false, .int .u64 0, .slice qo qn qc, .slice none 0 0] (.slice wo6 (L + m) wc6) (rowQ Q ++ mm) (.slice qo qn qc) (Q.map (·.1)) ((Q.map fun q => (q.1.ao, q.1.cap, q.2)) ++ [(ao2, cap2, mm)]) ∧ (W7.setCell ⟨w.heap.size, 4, none⟩ (.int .u64 ((L : Int) + ((m : Nat) : Int)))).heap[wr.heap.size]? = some (.cells #[.int .u64 (o7 : Int), .int .u32 (m : Int), .bool false, .slice ao2 m cap2] 62 (0, 0))) := ⟨H7.out.1.setR (put_boxX H7.out.1.rb 4 _ (by rw [hL8]; rfl)) (keptIn_set _ _ _ _), by rw [(keptIn_set W7 w.heap.size 4 _).block _ (block_lt H7.out.2) (apartB H7.out.1.rb H7.out.2 (by decide))]; exact H7.out.2⟩
              clear c0 y0 c1 y1 c2 y2 c3 y3
              clear r4 f4
              have HL8 : Hid (L8 = L + m) := hL8e
              clear hL8 hL8e
              generalize (W7.setCell ⟨w.heap.size, 4, none⟩ (.int .u64 ((L : Int) + ((m : Nat) : Int)))) = W8 at *
              clear H7
              have c0 : W8.cell? ⟨wr.heap.size, 0, none⟩ = some (.int .u64 (o7 : Int)) := by rw [blk_at H8.out.2]; rfl
              have y0 : W8.frozen? ⟨wr.heap.size, 0, none⟩ = false := blk_free H8.out.2 0
              have c1 : W8.cell? ⟨wr.heap.size, 1, none⟩ = some (.int .u32 (m : Int)) := by rw [blk_at H8.out.2]; rfl
              have y1 : W8.frozen? ⟨wr.heap.size, 1, none⟩ = false := blk_free H8.out.2 1
              have c2 : W8.cell? ⟨wr.heap.size, 2, none⟩ = some (.bool false) := by rw [blk_at H8.out.2]; rfl
              have y2 : W8.frozen? ⟨wr.heap.size, 2, none⟩ = false := blk_free H8.out.2 2
              have c3 : W8.cell? ⟨wr.heap.size, 3, none⟩ = some (.slice ao2 m cap2) := by rw [blk_at H8.out.2]; rfl
              have y3 : W8.frozen? ⟨wr.heap.size, 3, none⟩ = false := blk_free H8.out.2 3
              have o3 : W8.cell? ⟨w.heap.size + 1, 3, none⟩ = some (.slice qo qn qc) := by rw [blk_at H8.out.1.ob]; rfl
              have hN9 : ∀ j u, (⟨o7, m, false, ao2, m, cap2⟩ : Pc).cells.toList[j]? = some u → (W8.alloc (.cells (⟨o7, m, false, ao2, m, cap2⟩ : Pc).cells 62)).cell? ((⟨W8.heap.size, 0, none⟩ : Addr).add j) = some u := newsP W8 (⟨o7, m, false, ao2, m, cap2⟩ : Pc) _
              have H9 : Hid (Tl w (W8.alloc (.cells (⟨o7, m, false, ao2, m, cap2⟩ : Pc).cells 62)) #[.int .u16 (fl : Int), .int .u16 0, .int .u64 (ck : Int), .int .u64 (off : Int), .int .u64 (L8 : Int), d] #[.int .u32 0, .bool false, .int .u64 0, .slice qo qn qc, .slice none 0 0] (.slice wo6 (L + m) wc6) (rowQ Q ++ mm) (.slice qo qn qc) (Q.map (·.1)) ((Q.map fun q => (q.1.ao, q.1.cap, q.2)) ++ [(ao2, cap2, mm)])) := H8.out.1.later (below1 W8 _)
              have HQn : Hid ((Q.map (·.1)).length = qn) := by rw [List.length_map]; exact HT.out.qn_
              have hqn : qn ≤ 1048576 := by have := HT.out.ql; omega
              go_wp2_with (at_builtin; refine wpList_append_lies _ rfl _ _ 31 rfl w.heap.size 62 i6 (.agg #[.int .u64 0, .int .u32 0, .bool false, .slice none 0 0]) 4 40 Tryd.underlying31 hi6 hz60 hz61 hz62 rfl (by decide) (.slice qo qn qc) qn ((Q.map (·.1)).flatMap fun p => p.cells.toList) rfl (by have := H9.out.pw; rwa [HQn.out] at this) ⟨W8.heap.size, 0, none⟩ 1 1 (⟨o7, m, false, ao2, m, cap2⟩ : Pc).cells.toList rfl rfl hN9 (pc_one _) (by decide) (by unfold maxLen; omega) (by omega) H9.out.bel.size (W8.heap.size + 1) (by simp) ?_)
              intro g9 cap9 W9 ho9 hg9 _ _
              have H10 : Hid (Tl w W9 #[.int .u16 (fl : Int), .int .u16 0, .int .u64 (ck : Int), .int .u64 (off : Int), .int .u64 (L8 : Int), d] #[.int .u32 0, .bool false, .int .u64 0, .slice qo qn qc, .slice none 0 0] (.slice wo6 (L + m) wc6) (rowQ Q ++ mm) (.slice (some ⟨g9, 0, none⟩) (qn + 1) cap9) ((Q.map (·.1)) ++ [(⟨o7, m, false, ao2, m, cap2⟩ : Pc)]) ((Q.map fun q => (q.1.ao, q.1.cap, q.2)) ++ [(ao2, cap2, mm)])) := H9.out.push (⟨o7, m, false, ao2, m, cap2⟩ : Pc) (by rw [HQn.out]; exact ho9) hg9
              clear H9 ho9 hg9 hN9 H8
              clear o3 c0 y0 c1 y1 c2 y2 c3 y3
              have o3 : W9.cell? ⟨w.heap.size + 1, 3, none⟩ = some (.slice qo qn qc) := by rw [blk_at H10.out.ob]; rfl
              have y3 : W9.frozen? ⟨w.heap.size + 1, 3, none⟩ = false := blk_free H10.out.ob 3
              have HTn : Hid (TI w (W9.setCell ⟨w.heap.size + 1, 3, none⟩ (.slice (some ⟨g9, 0, none⟩) (qn + 1) cap9)) fl ck off d (k + 1) P0 (Q ++ [((⟨o7, m, false, ao2, m, cap2⟩ : Pc), mm)]) (L + m) wo6 wc6 (some ⟨g9, 0, none⟩) (qn + 1) cap9) := TI_push HT.out (by have := H10.out.setO (put_boxX H10.out.ob 3 (.slice (some ⟨g9, 0, none⟩) (qn + 1) cap9) rfl) (keptIn_set _ _ _ _); rw [HL8.out] at this; exact this) rfl HBr.out.2 HBr.out.2 ⟨ho7b, by show m < 4294967296; omega, by show m ≤ _; omega⟩ (fun hh => ⟨by simp only [pcB, Bool.and_eq_true, decide_eq_true_eq]; exact ⟨⟨by omega, rfl⟩, by have := ho7c hh; omega⟩, ho7c hh⟩) rfl HSs.out (by omega)
              clear H10
              go_wp2
              go_roundw
              case rel => exact ⟨k + 1, _, L + m, wo6, wc6, some ⟨g9, 0, none⟩, qn + 1, cap9, by omega, by go_num, rfl, HTn.out⟩
              case measure => simp [intOf]; omega
        · as_aux_lemma =>
            obtain ⟨l5, hl5, hl5b⟩ : ∃ l5 : Nat, (l : Int) % 5000 = (l5 : Int) ∧ l5 < 5000 := ⟨l % 5000, by omega, by omega⟩
            go_upto_region 12 with fail
            have H4 : Hid (Tl w (W3.setCell ⟨wr.heap.size, 3, none⟩ (.slice none 0 0)) #[.int .u16 (fl : Int), .int .u16 0, .int .u64 (ck : Int), .int .u64 (off : Int), .int .u64 (L : Int), d] #[.int .u32 0, .bool false, .int .u64 0, .slice qo qn qc, .slice none 0 0] (.slice wo L wcap) (rowQ Q) (.slice qo qn qc) (Q.map (·.1)) ((Q.map fun q => (q.1.ao, q.1.cap, q.2)) ++ [(ao2, cap2, mm)]) ∧ (W3.setCell ⟨wr.heap.size, 3, none⟩ (.slice none 0 0)).heap[wr.heap.size]? = some (.cells #[.int .u64 (o : Int), .int .u32 (l : Int), .bool true, .slice none 0 0] 62 (0, 0))) := ⟨H3.out.1.other H3.out.2 HPb.out HBg.out (keptIn_set _ _ _ _), put_boxX H3.out.2 3 _ rfl⟩
            clear c0 y0 c1 y1 c2 y2 c3 y3
            generalize W3.setCell ⟨wr.heap.size, 3, none⟩ (.slice none 0 0) = W4 at *
            clear H3
            have c0 : W4.cell? ⟨wr.heap.size, 0, none⟩ = some (.int .u64 (o : Int)) := by rw [blk_at H4.out.2]; rfl
            have y0 : W4.frozen? ⟨wr.heap.size, 0, none⟩ = false := blk_free H4.out.2 0
            have c1 : W4.cell? ⟨wr.heap.size, 1, none⟩ = some (.int .u32 (l : Int)) := by rw [blk_at H4.out.2]; rfl
            have y1 : W4.frozen? ⟨wr.heap.size, 1, none⟩ = false := blk_free H4.out.2 1
            have c2 : W4.cell? ⟨wr.heap.size, 2, none⟩ = some (.bool true) := by rw [blk_at H4.out.2]; rfl
            have y2 : W4.frozen? ⟨wr.heap.size, 2, none⟩ = false := blk_free H4.out.2 2
            have c3 : W4.cell? ⟨wr.heap.size, 3, none⟩ = some (.slice none 0 0) := by rw [blk_at H4.out.2]; rfl
            have y3 : W4.frozen? ⟨wr.heap.size, 3, none⟩ = false := blk_free H4.out.2 3
            go_upto_region 13 with fail
            have H5 : Hid (Tl w (W4.setCell ⟨wr.heap.size, 1, none⟩ (.int .u32 (l5 : Int))) #[.int .u16 (fl : Int), .int .u16 0, .int .u64 (ck : Int), .int .u64 (off : Int), .int .u64 (L : Int), d] #[.int .u32 0, .bool false, .int .u64 0, .slice qo qn qc, .slice none 0 0] (.slice wo L wcap) (rowQ Q) (.slice qo qn qc) (Q.map (·.1)) ((Q.map fun q => (q.1.ao, q.1.cap, q.2)) ++ [(ao2, cap2, mm)]) ∧ (W4.setCell ⟨wr.heap.size, 1, none⟩ (.int .u32 (l5 : Int))).heap[wr.heap.size]? = some (.cells #[.int .u64 (o : Int), .int .u32 (l5 : Int), .bool true, .slice none 0 0] 62 (0, 0))) := ⟨H4.out.1.other H4.out.2 HPb.out HBg.out (keptIn_set _ _ _ _), put_boxX H4.out.2 1 _ rfl⟩
            clear c0 y0 c1 y1 c2 y2 c3 y3
            generalize W4.setCell ⟨wr.heap.size, 1, none⟩ (.int .u32 (l5 : Int)) = W5 at *
            clear H4
            have c0 : W5.cell? ⟨wr.heap.size, 0, none⟩ = some (.int .u64 (o : Int)) := by rw [blk_at H5.out.2]; rfl
            have y0 : W5.frozen? ⟨wr.heap.size, 0, none⟩ = false := blk_free H5.out.2 0
            have c1 : W5.cell? ⟨wr.heap.size, 1, none⟩ = some (.int .u32 (l5 : Int)) := by rw [blk_at H5.out.2]; rfl
            have y1 : W5.frozen? ⟨wr.heap.size, 1, none⟩ = false := blk_free H5.out.2 1
            have c2 : W5.cell? ⟨wr.heap.size, 2, none⟩ = some (.bool true) := by rw [blk_at H5.out.2]; rfl
            have y2 : W5.frozen? ⟨wr.heap.size, 2, none⟩ = false := blk_free H5.out.2 2
            have c3 : W5.cell? ⟨wr.heap.size, 3, none⟩ = some (.slice none 0 0) := by rw [blk_at H5.out.2]; rfl
            have y3 : W5.frozen? ⟨wr.heap.size, 3, none⟩ = false := blk_free H5.out.2 3
            go_wp2_with (at_builtin; refine wpList_append_two_makeu _ rfl _ _ 27 9 30 rfl w.heap.size 5 i5 Tryd.underlying27 Tryd.underlying9 Tryd.underlying30 hi5 hz50 hz51 hz52 (.slice wo L wcap) L ((rowQ Q).map bv) rfl (by have := H5.out.1.ww; rwa [HT.out.len] at this) l5 rfl (by omega) (by omega) H5.out.1.bel.size ?_)
            intro wo6 wc6 W6 ho6 hg6 hf6
            have hlen6 : (rowQ Q ++ List.replicate l5 0).length = L + l5 := by rw [List.length_append, HT.out.len, List.length_replicate]
            have H6 : Hid (Tl w W6 #[.int .u16 (fl : Int), .int .u16 0, .int .u64 (ck : Int), .int .u64 (off : Int), .int .u64 (L : Int), d] #[.int .u32 0, .bool false, .int .u64 0, .slice qo qn qc, .slice none 0 0] (.slice wo6 (L + l5) wc6) (rowQ Q ++ List.replicate l5 0) (.slice qo qn qc) (Q.map (·.1)) ((Q.map fun q => (q.1.ao, q.1.cap, q.2)) ++ [(none, 0, [])]) ∧ W6.heap[wr.heap.size]? = some (.cells #[.int .u64 (o : Int), .int .u32 (l5 : Int), .bool true, .slice none 0 0] 62 (0, 0))) := ⟨((H5.out.1.fewer (fun q hq => List.mem_append_left _ hq)).more).grow (zeros_lt l5) (by rw [hlen6, List.map_append, List.map_replicate]; exact ho6) hg6 hf6, boxT H5.out.2 H5.out.1.ww (by decide) hg6⟩
            clear H5 ho6 hg6 hf6
            clear c0 y0 c1 y1 c2 y2 c3 y3
            have c0 : W6.cell? ⟨wr.heap.size, 0, none⟩ = some (.int .u64 (o : Int)) := by rw [blk_at H6.out.2]; rfl
            have y0 : W6.frozen? ⟨wr.heap.size, 0, none⟩ = false := blk_free H6.out.2 0
            have c1 : W6.cell? ⟨wr.heap.size, 1, none⟩ = some (.int .u32 (l5 : Int)) := by rw [blk_at H6.out.2]; rfl
            have y1 : W6.frozen? ⟨wr.heap.size, 1, none⟩ = false := blk_free H6.out.2 1
            have c2 : W6.cell? ⟨wr.heap.size, 2, none⟩ = some (.bool true) := by rw [blk_at H6.out.2]; rfl
            have y2 : W6.frozen? ⟨wr.heap.size, 2, none⟩ = false := blk_free H6.out.2 2
            have c3 : W6.cell? ⟨wr.heap.size, 3, none⟩ = some (.slice none 0 0) := by rw [blk_at H6.out.2]; rfl
            have y3 : W6.frozen? ⟨wr.heap.size, 3, none⟩ = false := blk_free H6.out.2 3
            have r3 : W6.cell? ⟨w.heap.size, 3, none⟩ = some (.int .u64 (off : Int)) := by rw [blk_at H6.out.1.rb]; rfl
            have r4 : W6.cell? ⟨w.heap.size, 4, none⟩ = some (.int .u64 (L : Int)) := by rw [blk_at H6.out.1.rb]; rfl
            have f4 : W6.frozen? ⟨w.heap.size, 4, none⟩ = false := blk_free H6.out.1.rb 4
            by_cases hz : l5 = 0
            · have hzz : ((l5 : Nat) : Int) = 0 := by omega
              have HTn : Hid (TI w W6 fl ck off d (k + 1) P0 Q (L + l5) wo6 wc6 qo qn qc) := TI_zero HT.out (H6.out.1) hz (List.length_replicate ..) (by rw [HSs.out]; omega)
              clear H6
              go_wp2
              go_roundw
              case rel => exact ⟨k + 1, Q, L + l5, wo6, wc6, qo, qn, qc, by omega, by go_num, rfl, HTn.out⟩
              case measure => simp [intOf]; omega
            · have hzb : (((l5 : Nat) : Int) == 0) = false := by rw [beq_eq_false_iff_ne]; omega
              have hzz : ¬ ((l5 : Nat) : Int) = 0 := by omega
              obtain ⟨o7, ho7, ho7b, ho7c⟩ : ∃ o7 : Nat, IntKind.u64.wrap ((off : Int) + (L : Int)) = (o7 : Int) ∧ o7 < 18446744073709551616 ∧ (off ≤ 9223372036854775808 → o7 = off + L) := ⟨(off + L) % 18446744073709551616, by rw [IntKind.wrap_u64]; omega, by omega, by omega⟩
              go_upto_region 18 with fail
              have H7 : Hid (Tl w (W6.setCell ⟨wr.heap.size, 0, none⟩ (.int .u64 (o7 : Int))) #[.int .u16 (fl : Int), .int .u16 0, .int .u64 (ck : Int), .int .u64 (off : Int), .int .u64 (L : Int), d] #[.int .u32 0, .bool false, .int .u64 0, .slice qo qn qc, .slice none 0 0] (.slice wo6 (L + l5) wc6) (rowQ Q ++ List.replicate l5 0) (.slice qo qn qc) (Q.map (·.1)) ((Q.map fun q => (q.1.ao, q.1.cap, q.2)) ++ [(none, 0, [])]) ∧ (W6.setCell ⟨wr.heap.size, 0, none⟩ (.int .u64 (o7 : Int))).heap[wr.heap.size]? = some (.cells #[.int .u64 (o7 : Int), .int .u32 (l5 : Int), .bool true, .slice none 0 0] 62 (0, 0))) := ⟨H6.out.1.other H6.out.2 HPb.out HBg.out (keptIn_set _ _ _ _), put_boxX H6.out.2 0 _ rfl⟩
              clear c0 y0 c1 y1 c2 y2 c3 y3
              clear r3 r4 f4
              generalize W6.setCell ⟨wr.heap.size, 0, none⟩ (.int .u64 (o7 : Int)) = W7 at *
              clear H6
              have c0 : W7.cell? ⟨wr.heap.size, 0, none⟩ = some (.int .u64 (o7 : Int)) := by rw [blk_at H7.out.2]; rfl
              have y0 : W7.frozen? ⟨wr.heap.size, 0, none⟩ = false := blk_free H7.out.2 0
              have c1 : W7.cell? ⟨wr.heap.size, 1, none⟩ = some (.int .u32 (l5 : Int)) := by rw [blk_at H7.out.2]; rfl
              have y1 : W7.frozen? ⟨wr.heap.size, 1, none⟩ = false := blk_free H7.out.2 1
              have c2 : W7.cell? ⟨wr.heap.size, 2, none⟩ = some (.bool true) := by rw [blk_at H7.out.2]; rfl
              have y2 : W7.frozen? ⟨wr.heap.size, 2, none⟩ = false := blk_free H7.out.2 2
              have c3 : W7.cell? ⟨wr.heap.size, 3, none⟩ = some (.slice none 0 0) := by rw [blk_at H7.out.2]; rfl
              have y3 : W7.frozen? ⟨wr.heap.size, 3, none⟩ = false := blk_free H7.out.2 3
              have r4 : W7.cell? ⟨w.heap.size, 4, none⟩ = some (.int .u64 (L : Int)) := by rw [blk_at H7.out.1.rb]; rfl
              have f4 : W7.frozen? ⟨w.heap.size, 4, none⟩ = false := blk_free H7.out.1.rb 4
              go_upto_region 19 with fail
              obtain ⟨L8, hL8, hL8e⟩ : ∃ L8 : Nat, (L : Int) + ((l5 : Nat) : Int) = (L8 : Int) ∧ L8 = L + l5 := ⟨L + l5, by omega, rfl⟩
              have H8 : Hid (Tl w (W7.setCell ⟨w.heap.size, 4, none⟩ (.int .u64 ((L : Int) + ((l5 : Nat) : Int)))) #[.int .u16 (fl : Int), .int .u16 0, .int .u64 (ck : Int), .int .u64 (off : Int), .int .u64 (L8 : Int), d] #[.int .u32 0, .bool false, .int .u64 0, .slice qo qn qc, .slice none 0 0] (.slice wo6 (L + l5) wc6) (rowQ Q ++ List.replicate l5 0) (.slice qo qn qc) (Q.map (·.1)) ((Q.map fun q => (q.1.ao, q.1.cap, q.2)) ++ [(none, 0, [])]) ∧ (W7.setCell ⟨w.heap.size, 4, none⟩ (.int .u64 ((L : Int) + ((l5 : Nat) : Int)))).heap[wr.heap.size]? = some (.cells #[.int .u64 (o7 : Int), .int .u32 (l5 : Int), .bool true, .slice none 0 0] 62 (0, 0))) := ⟨H7.out.1.setR (put_boxX H7.out.1.rb 4 _ (by rw [hL8]; rfl)) (keptIn_set _ _ _ _), by rw [(keptIn_set W7 w.heap.size 4 _).block _ (block_lt H7.out.2) (apartB H7.out.1.rb H7.out.2 (by decide))]; exact H7.out.2⟩
              clear c0 y0 c1 y1 c2 y2 c3 y3
              clear r4 f4
              have HL8 : Hid (L8 = L + l5) := hL8e
              clear hL8 hL8e
              generalize (W7.setCell ⟨w.heap.size, 4, none⟩ (.int .u64 ((L : Int) + ((l5 : Nat) : Int)))) = W8 at *
              clear H7
              have c0 : W8.cell? ⟨wr.heap.size, 0, none⟩ = some (.int .u64 (o7 : Int)) := by rw [blk_at H8.out.2]; rfl
              have y0 : W8.frozen? ⟨wr.heap.size, 0, none⟩ = false := blk_free H8.out.2 0
              have c1 : W8.cell? ⟨wr.heap.size, 1, none⟩ = some (.int .u32 (l5 : Int)) := by rw [blk_at H8.out.2]; rfl
              have y1 : W8.frozen? ⟨wr.heap.size, 1, none⟩ = false := blk_free H8.out.2 1
              have c2 : W8.cell? ⟨wr.heap.size, 2, none⟩ = some (.bool true) := by rw [blk_at H8.out.2]; rfl
              have y2 : W8.frozen? ⟨wr.heap.size, 2, none⟩ = false := blk_free H8.out.2 2
              have c3 : W8.cell? ⟨wr.heap.size, 3, none⟩ = some (.slice none 0 0) := by rw [blk_at H8.out.2]; rfl
              have y3 : W8.frozen? ⟨wr.heap.size, 3, none⟩ = false := blk_free H8.out.2 3
              have o3 : W8.cell? ⟨w.heap.size + 1, 3, none⟩ = some (.slice qo qn qc) := by rw [blk_at H8.out.1.ob]; rfl
              have hN9 : ∀ j u, (⟨o7, l5, true, none, 0, 0⟩ : Pc).cells.toList[j]? = some u → (W8.alloc (.cells (⟨o7, l5, true, none, 0, 0⟩ : Pc).cells 62)).cell? ((⟨W8.heap.size, 0, none⟩ : Addr).add j) = some u := newsP W8 (⟨o7, l5, true, none, 0, 0⟩ : Pc) _
              have H9 : Hid (Tl w (W8.alloc (.cells (⟨o7, l5, true, none, 0, 0⟩ : Pc).cells 62)) #[.int .u16 (fl : Int), .int .u16 0, .int .u64 (ck : Int), .int .u64 (off : Int), .int .u64 (L8 : Int), d] #[.int .u32 0, .bool false, .int .u64 0, .slice qo qn qc, .slice none 0 0] (.slice wo6 (L + l5) wc6) (rowQ Q ++ List.replicate l5 0) (.slice qo qn qc) (Q.map (·.1)) ((Q.map fun q => (q.1.ao, q.1.cap, q.2)) ++ [(none, 0, [])])) := H8.out.1.later (below1 W8 _)
              have HQn : Hid ((Q.map (·.1)).length = qn) := by rw [List.length_map]; exact HT.out.qn_
              have hqn : qn ≤ 1048576 := by have := HT.out.ql; omega
              go_wp2_with (at_builtin; refine wpList_append_lies _ rfl _ _ 31 rfl w.heap.size 62 i6 (.agg #[.int .u64 0, .int .u32 0, .bool false, .slice none 0 0]) 4 40 Tryd.underlying31 hi6 hz60 hz61 hz62 rfl (by decide) (.slice qo qn qc) qn ((Q.map (·.1)).flatMap fun p => p.cells.toList) rfl (by have := H9.out.pw; rwa [HQn.out] at this) ⟨W8.heap.size, 0, none⟩ 1 1 (⟨o7, l5, true, none, 0, 0⟩ : Pc).cells.toList rfl rfl hN9 (pc_one _) (by decide) (by unfold maxLen; omega) (by omega) H9.out.bel.size (W8.heap.size + 1) (by simp) ?_)
              intro g9 cap9 W9 ho9 hg9 _ _
              have H10 : Hid (Tl w W9 #[.int .u16 (fl : Int), .int .u16 0, .int .u64 (ck : Int), .int .u64 (off : Int), .int .u64 (L8 : Int), d] #[.int .u32 0, .bool false, .int .u64 0, .slice qo qn qc, .slice none 0 0] (.slice wo6 (L + l5) wc6) (rowQ Q ++ List.replicate l5 0) (.slice (some ⟨g9, 0, none⟩) (qn + 1) cap9) ((Q.map (·.1)) ++ [(⟨o7, l5, true, none, 0, 0⟩ : Pc)]) ((Q.map fun q => (q.1.ao, q.1.cap, q.2)) ++ [(none, 0, [])])) := H9.out.push (⟨o7, l5, true, none, 0, 0⟩ : Pc) (by rw [HQn.out]; exact ho9) hg9
              clear H9 ho9 hg9 hN9 H8
              clear o3 c0 y0 c1 y1 c2 y2 c3 y3
              have o3 : W9.cell? ⟨w.heap.size + 1, 3, none⟩ = some (.slice qo qn qc) := by rw [blk_at H10.out.ob]; rfl
              have y3 : W9.frozen? ⟨w.heap.size + 1, 3, none⟩ = false := blk_free H10.out.ob 3
              have HTn : Hid (TI w (W9.setCell ⟨w.heap.size + 1, 3, none⟩ (.slice (some ⟨g9, 0, none⟩) (qn + 1) cap9)) fl ck off d (k + 1) P0 (Q ++ [((⟨o7, l5, true, none, 0, 0⟩ : Pc), [])]) (L + l5) wo6 wc6 (some ⟨g9, 0, none⟩) (qn + 1) cap9) := TI_push HT.out (by have := H10.out.setO (put_boxX H10.out.ob 3 (.slice (some ⟨g9, 0, none⟩) (qn + 1) cap9) rfl) (keptIn_set _ _ _ _); rw [HL8.out] at this; exact this) rfl (List.length_replicate ..) rfl ⟨ho7b, by show l5 < 4294967296; omega, by show 0 ≤ _; omega⟩ (fun hh => ⟨by simp only [pcB, Bool.and_eq_true, decide_eq_true_eq]; exact ⟨⟨by omega, rfl⟩, by have := ho7c hh; omega⟩, ho7c hh⟩) rfl HSs.out (by omega)
              clear H10
              go_wp2
              go_roundw
              case rel => exact ⟨k + 1, _, L + l5, wo6, wc6, some ⟨g9, 0, none⟩, qn + 1, cap9, by omega, by go_num, rfl, HTn.out⟩
              case measure => simp [intOf]; omega
    · obtain rfl : k = pn := by omega
      as_aux_lemma =>
        have hLb : L ≤ 1048576000 := by have := HT.out.le; have := sum_take P0 k; have := HS.out; omega
        have hqn : qn ≤ 1048576 := by have := HT.out.ql; omega
        have r0 : wr.cell? ⟨w.heap.size, 0, none⟩ = some (.int .u16 (fl : Int)) := by rw [blk_at HT.out.tl.rb]; rfl
        have r1 : wr.cell? ⟨w.heap.size, 1, none⟩ = some (.int .u16 0) := by rw [blk_at HT.out.tl.rb]; rfl
        have r2 : wr.cell? ⟨w.heap.size, 2, none⟩ = some (.int .u64 (ck : Int)) := by rw [blk_at HT.out.tl.rb]; rfl
        have r3 : wr.cell? ⟨w.heap.size, 3, none⟩ = some (.int .u64 (off : Int)) := by rw [blk_at HT.out.tl.rb]; rfl
        have r4 : wr.cell? ⟨w.heap.size, 4, none⟩ = some (.int .u64 (L : Int)) := by rw [blk_at HT.out.tl.rb]; rfl
        have r5 : wr.cell? ⟨w.heap.size, 5, none⟩ = some (d) := by rw [blk_at HT.out.tl.rb]; rfl
        by_cases h63 : 9223372036854775808 < off
        · have h63z : (9223372036854775808 : Int) < (off : Int) := by omega
          have HBe : Hid (Below w.heap.size w wr) := HT.out.tl.bel
          go_wp2_with fail
          refine (alive_any wr).mono ?_
          rintro e W8 ⟨rfl, hb8⟩
          have HB8 : Hid (Below w.heap.size w W8) := HBe.out.trans (hb8.mono HBe.out.size)
          clear hb8
          go_wp2
          go_ret
          exact ⟨rfl, HB8.out⟩
        · have h63z : ¬ (9223372036854775808 : Int) < (off : Int) := by omega
          have o0 : wr.cell? ⟨w.heap.size + 1, 0, none⟩ = some (.int .u32 0) := by rw [blk_at HT.out.tl.ob]; rfl
          have o1 : wr.cell? ⟨w.heap.size + 1, 1, none⟩ = some (.bool false) := by rw [blk_at HT.out.tl.ob]; rfl
          have o2 : wr.cell? ⟨w.heap.size + 1, 2, none⟩ = some (.int .u64 0) := by rw [blk_at HT.out.tl.ob]; rfl
          have o3 : wr.cell? ⟨w.heap.size + 1, 3, none⟩ = some (.slice qo qn qc) := by rw [blk_at HT.out.tl.ob]; rfl
          have o4 : wr.cell? ⟨w.heap.size + 1, 4, none⟩ = some (.slice none 0 0) := by rw [blk_at HT.out.tl.ob]; rfl
          have qr0 : ∀ o, (wr.alloc o).cell? ⟨w.heap.size, 0, none⟩ = some (.int .u16 (fl : Int)) := fun o => cell_later (below1 wr o) r0
          have qr1 : ∀ o, (wr.alloc o).cell? ⟨w.heap.size, 1, none⟩ = some (.int .u16 0) := fun o => cell_later (below1 wr o) r1
          have qr2 : ∀ o, (wr.alloc o).cell? ⟨w.heap.size, 2, none⟩ = some (.int .u64 (ck : Int)) := fun o => cell_later (below1 wr o) r2
          have qr3 : ∀ o, (wr.alloc o).cell? ⟨w.heap.size, 3, none⟩ = some (.int .u64 (off : Int)) := fun o => cell_later (below1 wr o) r3
          have qr4 : ∀ o, (wr.alloc o).cell? ⟨w.heap.size, 4, none⟩ = some (.int .u64 (L : Int)) := fun o => cell_later (below1 wr o) r4
          have qr5 : ∀ o, (wr.alloc o).cell? ⟨w.heap.size, 5, none⟩ = some (d) := fun o => cell_later (below1 wr o) r5
          have qo0 : ∀ o, (wr.alloc o).cell? ⟨w.heap.size + 1, 0, none⟩ = some (.int .u32 0) := fun o => cell_later (below1 wr o) o0
          have qo1 : ∀ o, (wr.alloc o).cell? ⟨w.heap.size + 1, 1, none⟩ = some (.bool false) := fun o => cell_later (below1 wr o) o1
          have qo2 : ∀ o, (wr.alloc o).cell? ⟨w.heap.size + 1, 2, none⟩ = some (.int .u64 0) := fun o => cell_later (below1 wr o) o2
          have qo3 : ∀ o, (wr.alloc o).cell? ⟨w.heap.size + 1, 3, none⟩ = some (.slice qo qn qc) := fun o => cell_later (below1 wr o) o3
          have qo4 : ∀ o, (wr.alloc o).cell? ⟨w.heap.size + 1, 4, none⟩ = some (.slice none 0 0) := fun o => cell_later (below1 wr o) o4
          go_wp2_with fail
          have h1 : Tl w (wr.alloc (.cells #[.int .i64 0, .bool st, .bool ex, .slice none 0 0] 24)) #[.int .u16 (fl : Int), .int .u16 0, .int .u64 (ck : Int), .int .u64 (off : Int), .int .u64 (L : Int), d] #[.int .u32 0, .bool false, .int .u64 0, .slice qo qn qc, .slice none 0 0] (.slice wo L wcap) (rowQ Q) (.slice qo qn qc) (Q.map (·.1)) (Q.map fun q => (q.1.ao, q.1.cap, q.2)) := HT.out.tl.later (below1 wr _)
          clear r0 qr0 r1 qr1 r2 qr2 r3 qr3 r4 qr4 r5 qr5 o0 qo0 o1 qo1 o2 qo2 o3 qo3 o4 qo4
          generalize (wr.alloc (.cells #[.int .i64 0, .bool st, .bool ex, .slice none 0 0] 24)) = W1 at *
          have hdat : ∀ q ∈ Q, q.2.length = q.1.n ∧ BRow W1 q.1.ao q.1.cap q.2 := fun q hq => by
            have h2 := h1.dat (q.1.ao, q.1.cap, q.2) (List.mem_map_of_mem hq)
            have h3 := HT.out.dn q hq
            exact ⟨h3.1, brow_own h2.1 rfl h2.2.1 (by rw [h3.1]; exact h3.2.2.2)⟩
          obtain ⟨D, hD⟩ := dOf hdat
          have hPr : PRow W1 qo (Q.map (·.1)) := prow_own h1.pw (fun p hp => by obtain ⟨q, hq, rfl⟩ := List.mem_map.1 hp; exact (HT.out.dn q hq).2) (by rw [List.length_map, HT.out.qn_]; exact hqn)
          have hpie := HT.out.pie (by omega)
          obtain ⟨df, hdf⟩ := and4 fl hfl
          obtain ⟨eo, heo⟩ : ∃ eo, eo = if ex = true then off else 0 := ⟨_, rfl⟩
          have hR : rowL D (Q.map (·.1)) = rowQ Q := rowQ_eq hD
          have hDp : ∀ p ∈ (Q.map (·.1)), (D p).length = p.n ∧ BRow W1 p.ao p.cap (D p) := fun p hp => by
            obtain ⟨q, hq, rfl⟩ := List.mem_map.1 hp
            rw [hD q hq]; exact hdat q hq
          have hby := bytes_tells st ex df fl ck off L d qo qn qc W1 (Q.map (·.1)) D hPr (by show _ = _; rw [List.length_map]; exact HT.out.qn_) hpie (id hDp : Hid (∀ p ∈ (Q.map (·.1)), (D p).length = p.n ∧ BRow W1 p.ao p.cap (D p))) hck hoff (by omega) hdf eo heo
          have HPie : Hid (pieB off L 0 (Q.map (·.1)) = true) := hpie
          have HDl : Hid (∀ p ∈ (Q.map (·.1)), (D p).length = p.n) := fun p hp => (hDp p hp).1
          have HDf : Hid (bits .and .u16 (fl : Int) 4 = if df = true then 4 else 0) := hdf
          have HEo : Hid (eo = if ex = true then off else 0) := heo
          have HR : Hid (rowL D (Q.map (·.1)) = rowQ Q) := hR
          have H1 : Hid (Tl w W1 #[.int .u16 (fl : Int), .int .u16 0, .int .u64 (ck : Int), .int .u64 (off : Int), .int .u64 (L : Int), d] #[.int .u32 0, .bool false, .int .u64 0, .slice qo qn qc, .slice none 0 0] (.slice wo L wcap) (rowQ Q) (.slice qo qn qc) (Q.map (·.1)) (Q.map fun q => (q.1.ao, q.1.cap, q.2))) := h1
          obtain ⟨tb, htb⟩ : ∃ tb, (telB st ex df ck eo off L D (Q.map (·.1))) = tb := ⟨_, rfl⟩
          rw [htb] at hby
          have HTB : Hid _ := htb
          obtain ⟨tn, htn⟩ : ∃ tn, tb.length = tn := ⟨_, rfl⟩
          rw [htn] at hby
          have HTn : Hid _ := htn
          have HBy : Hid _ := hby
          clear hdat hD hPr hpie hdf heo hR hDp hby h1 htb htn
          refine Calls.mono HBy.out ?_
          rintro e W2 ⟨ao, cap, rfl, hrow⟩
          have H2 : Hid (Tl w W2 #[.int .u16 (fl : Int), .int .u16 0, .int .u64 (ck : Int), .int .u64 (off : Int), .int .u64 (L : Int), d] #[.int .u32 0, .bool false, .int .u64 0, .slice qo qn qc, .slice none 0 0] (.slice wo L wcap) (rowQ Q) (.slice qo qn qc) (Q.map (·.1)) (Q.map fun q => (q.1.ao, q.1.cap, q.2))) := H1.out.later hrow.bel
          have HRw : Hid (Row W1 W2 ao cap tb) := hrow
          clear hrow HBy
          go_wp2_with fail
          refine (num_any 0 W2).mono ?_
          rintro e W' ⟨rfl, hw⟩
          rw [hw]; clear hw
          obtain ⟨vb, hvb⟩ : ∃ vb, vb = (!st && !ex) := ⟨_, rfl⟩
          have HVb : Hid _ := hvb
          clear hvb
          go_upto_region 26 with fail
          go_cut [114] from 109 to 113 (fun v wc => v = .bool vb ∧ wc = W2)
          case first =>
            rcases st with _ | _ <;> rcases ex with _ | _
            all_goals
              go_wp2
              go_meet
              exact ⟨by rw [HVb.out]; rfl, rfl⟩
          case rest =>
            obtain ⟨hv, hw⟩ := hcut
            subst hv hw
            by_cases hs : st = false ∧ ex = false
            · as_aux_lemma =>
                obtain ⟨rfl, rfl⟩ := hs
                obtain rfl : vb = true := HVb.out
                have hTB : tb = sL 0 ck ++ rowQ Q := by rw [← HTB.out, ← HR.out]; simp [telB]
                subst hTB
                have htl : 16 + L = tn := by rw [← HTn.out]; simp [sL, bigTo_length, HT.out.len]; omega
                obtain ⟨g, hg⟩ := row_some HRw.out (by rw [HTn.out]; omega)
                subst hg
                have hcr : CRow wc (some ⟨g, 0, none⟩) cap (sL 0 ck ++ rowQ Q) := HRw.out.crow (by rw [HTn.out]; omega)
                have hdec := dec_simple 0 ck (rowQ Q) (by decide) hck g 0 cap wc hcr
                rw [HTn.out] at hdec
                have HDec : Hid _ := hdec
                have hcap := hcr.cap1
                rw [HTn.out] at hcap
                have hcap2 := hcr.cap2
                have HCr : Hid _ := hcr
                clear hdec hcr
                go_wp2_with fail
                refine Calls.mono HDec.out ?_
                rintro e W3 ⟨rfl, hb3⟩
                go_wp2_with fail
                have H4 : Hid (Tl w (W3.alloc (.cells #[.int .u32 0, .int .u64 (ck : Int)] 44)) #[.int .u16 (fl : Int), .int .u16 0, .int .u64 (ck : Int), .int .u64 (off : Int), .int .u64 (L : Int), d] #[.int .u32 0, .bool false, .int .u64 0, .slice qo qn qc, .slice none 0 0] (.slice wo L wcap) (rowQ Q) (.slice qo qn qc) (Q.map (·.1)) (Q.map fun q => (q.1.ao, q.1.cap, q.2)) ∧ Below wc.heap.size wc (W3.alloc (.cells #[.int .u32 0, .int .u64 (ck : Int)] 44)) ∧ (W3.alloc (.cells #[.int .u32 0, .int .u64 (ck : Int)] 44)).heap[W3.heap.size]? = some (.cells #[.int .u32 0, .int .u64 (ck : Int)] 44 (0, 0))) := ⟨(H2.out.later hb3).later (below1 W3 _), hb3.trans ((below1 W3 _).mono hb3.size), heap_new W3 _⟩
                clear hb3 HDec
                generalize (W3.alloc (.cells #[.int .u32 0, .int .u64 (ck : Int)] 44)) = W4 at *
                refine (num_any 0 W4).mono ?_
                rintro e W' ⟨rfl, hw⟩
                rw [hw]; clear hw
                have r2 : W4.cell? ⟨w.heap.size, 2, none⟩ = some (.int .u64 (ck : Int)) := by rw [blk_at H4.out.1.rb]; rfl
                have x0 : W4.cell? ⟨W3.heap.size, 0, none⟩ = some (.int .u32 0) := by rw [blk_at H4.out.2.2]; rfl
                have x1 : W4.cell? ⟨W3.heap.size, 1, none⟩ = some (.int .u64 (ck : Int)) := by rw [blk_at H4.out.2.2]; rfl
                have HEq := eqSim 0 (ck : Int)
                have h16 : (16 : Int) ≤ (tn : Int) := by omega
                have h16n : 16 ≤ tn := by omega
                have hpast := crow_past (N := 16) HCr.out (by simp [sL, bigTo_length])
                rw [Nat.zero_add] at hpast
                have HPast : Hid (BRow W4 (if cap = 16 then some ⟨g, 0, none⟩ else some ⟨g, 16, none⟩) (cap - 16) (rowQ Q)) := hpast.row.later H4.out.2.1
                have HWant : Hid (BRow W4 wo wcap (rowQ Q)) := brow_own (by have := H4.out.1.ww; rwa [HT.out.len] at this) HT.out.len H4.out.1.wlt (by rw [HT.out.len]; omega)
                clear hpast
                by_cases hc16 : cap = 16
                · have HPa : Hid (BRow W4 (some ⟨g, 0, none⟩) 0 (rowQ Q)) := by have := HPast.out; rw [if_pos hc16, hc16] at this; exact this
                  go_wp2_with fail
                  refine (same18 _ _ _ _ _ _ W4 HPa.out HWant.out (tn - 16) L (by rw [HT.out.len]; omega) HT.out.len).mono ?_
                  rintro e W5 ⟨rfl, q, rfl⟩
                  have HB5 : Hid (Below w.heap.size w (W4.drewN q)) := H4.out.1.bel.trans ((below_drewN W4 q).mono H4.out.1.bel.size)
                  clear HPa HWant HPast r2 x0 x1 HCr H4
                  generalize W4.drewN q = W5 at *
                  go_wp2_with fail
                  refine (alive_any W5).mono ?_
                  rintro e W8 ⟨rfl, hb8⟩
                  have HB8 : Hid (Below w.heap.size w W8) := HB5.out.trans (hb8.mono HB5.out.size)
                  clear hb8
                  go_wp2
                  go_ret
                  exact ⟨rfl, HB8.out⟩
                · have HPa : Hid (BRow W4 (some ⟨g, 16, none⟩) (cap - 16) (rowQ Q)) := by have := HPast.out; rw [if_neg hc16] at this; exact this
                  go_wp2_with fail
                  refine (same18 _ _ _ _ _ _ W4 HPa.out HWant.out (tn - 16) L (by rw [HT.out.len]; omega) HT.out.len).mono ?_
                  rintro e W5 ⟨rfl, q, rfl⟩
                  have HB5 : Hid (Below w.heap.size w (W4.drewN q)) := H4.out.1.bel.trans ((below_drewN W4 q).mono H4.out.1.bel.size)
                  clear HPa HWant HPast r2 x0 x1 HCr H4
                  generalize W4.drewN q = W5 at *
                  go_wp2_with fail
                  refine (alive_any W5).mono ?_
                  rintro e W8 ⟨rfl, hb8⟩
                  have HB8 : Hid (Below w.heap.size w W8) := HB5.out.trans (hb8.mono HB5.out.size)
                  clear hb8
                  go_wp2
                  go_ret
                  exact ⟨rfl, HB8.out⟩
            · as_aux_lemma =>
                have hTB : tb = encS ex (doneS (zT df ck eo off L D (Q.map (·.1)))) := by rw [← HTB.out, telB, if_neg hs]
                subst hTB
                have hvb : vb = false := by
                  rw [HVb.out]
                  rcases st with _ | _
                  · rcases ex with _ | _
                    · exact absurd ⟨rfl, rfl⟩ hs
                    · rfl
                  · rfl
                subst hvb
                have heb : eo < 18446744073709551616 := by rw [HEo.out]; split <;> omega
                have HOk : Hid _ := zT_ok (ex := ex) (df := df) (D := D) hck heb (fun e => by rw [HEo.out, e]; rfl) (by omega : L ≤ 4294967280) HPie.out HDl.out
                have HCr : Hid (CRow wc ao cap (encS ex (doneS (zT df ck eo off L D (Q.map (·.1)))))) := HRw.out.crow (by rw [enc_doneT]; have h1 := zT_small (ex := ex) (df := df) (ck := ck) (eo := eo) HPie.out HDl.out; rw [List.length_map, HT.out.qn_] at h1; omega)
                have HZl : Hid (0 < (zT df ck eo off L D (Q.map (·.1))).length ∧ (zT df ck eo off L D (Q.map (·.1))).length ≤ 1048576) := by
                  have h1 := zT_len (df := df) (ck := ck) (eo := eo) HPie.out HDl.out (by omega)
                  rw [List.length_map, HT.out.qn_] at h1
                  exact ⟨h1.1, by have h2 := sum_five P0; have h3 := HS.out; have h4 := HT.out.ql; have h5 := HN.out; omega⟩
                clear heb
                go_wp2_with fail
                refine (cut_any ao cap tn (doneS (zT df ck eo off L D (Q.map (·.1)))) ex wc HCr.out HTn HOk (by rw [doneS_lenT]; exact HZl.out.2)).mono ?_
                rintro e W3 ⟨v3, K, rfl, hck3, hsay, hb3⟩
                obtain ⟨n, hn⟩ : ∃ n, (zT df ck eo off L D (Q.map (·.1))).length = n := ⟨_, rfl⟩
                have hKl : K.length = n := by
                  have h1 := congrArg List.length hsay
                  rw [List.length_map, doneS_lenT, hn] at h1
                  exact h1
                have hn0 : 0 < n := by rw [← hn]; exact HZl.out.1
                have hn1 : n ≤ 1048576 := by rw [← hn]; exact HZl.out.2
                have HZn : Hid ((zT df ck eo off L D (Q.map (·.1))).length = n) := hn
                obtain ⟨g, kc, rfl, _, hg2, hg3, hg4, _⟩ := cks_form hck3 (by omega)
                rw [hKl]
                have HK : Hid (Cks wc W3 (.slice (some ⟨g, 0, none⟩) K.length kc) K) := hck3
                have HSay : Hid _ := hsay
                have HKl : Hid _ := hKl
                have H3 : Hid (Tl w W3 #[.int .u16 (fl : Int), .int .u16 0, .int .u64 (ck : Int), .int .u64 (off : Int), .int .u64 (L : Int), d] #[.int .u32 0, .bool false, .int .u64 0, .slice qo qn qc, .slice none 0 0] (.slice wo L wcap) (rowQ Q) (.slice qo qn qc) (Q.map (·.1)) (Q.map fun q => (q.1.ao, q.1.cap, q.2))) := H2.out.later hb3
                clear hck3 hsay hb3 hKl hg2 hg3 hg4 HCr HOk HZl hn
                have hnz : ((n : Int) == 0) = false := by rw [beq_eq_false_iff_ne]; omega
                have hnz2 : ¬ (n : Int) = 0 := by omega
                have hmk1 := fun w => run_zerosI w (n := L) (by omega)
                have hmk2 := fun w => run_falses w (n := L) (by omega)
                by_cases hL0 : L = 0
                · as_aux_lemma =>
                    have hz : zT df ck eo off L D (Q.map (·.1)) = [(0, 0, ck, eo, [])] := by unfold zT; rw [if_pos hL0]
                    have hn1 : n = 1 := by rw [← HZn.out, hz]; rfl
                    have hsay2 := HSay.out
                    rw [hz] at hsay2
                    obtain ⟨cao, ccap, hK⟩ := one_of (f := 1) (t := 0) (c := ck) (o := eo) (d := []) hsay2
                    subst hK
                    have HN1 : Hid (n = 1) := hn1
                    have c0 : W3.cell? ⟨g, 0, none⟩ = some (.int .u16 1) := HK.out.cell 0 0 (by simp) (by decide)
                    have c1 : W3.cell? ⟨g, 1, none⟩ = some (.int .u16 0) := HK.out.cell 0 1 (by simp) (by decide)
                    have c2 : W3.cell? ⟨g, 2, none⟩ = some (.int .u64 (ck : Int)) := HK.out.cell 0 2 (by simp) (by decide)
                    have c3 : W3.cell? ⟨g, 3, none⟩ = some (.int .u64 (eo : Int)) := HK.out.cell 0 3 (by simp) (by decide)
                    have c4 : W3.cell? ⟨g, 4, none⟩ = some (.slice cao 0 ccap) := HK.out.cell 0 4 (by simp) (by decide)
                    have HCs : Hid (∀ W, Below W3.heap.size W3 W → W.cell? ⟨g, 0, none⟩ = some (.int .u16 1) ∧ W.cell? ⟨g, 1, none⟩ = some (.int .u16 0) ∧ W.cell? ⟨g, 2, none⟩ = some (.int .u64 (ck : Int)) ∧ W.cell? ⟨g, 3, none⟩ = some (.int .u64 (eo : Int)) ∧ W.cell? ⟨g, 4, none⟩ = some (.slice cao 0 ccap) ∧ W.cell? ⟨w.heap.size, 2, none⟩ = some (.int .u64 (ck : Int)) ∧ W.cell? ⟨w.heap.size, 3, none⟩ = some (.int .u64 (off : Int))) := fun W hb => ⟨cell_later hb c0, cell_later hb c1, cell_later hb c2, cell_later hb c3, cell_later hb c4, cell_later hb (by rw [blk_at H3.out.rb]; rfl), cell_later hb (by rw [blk_at H3.out.rb]; rfl)⟩
                    have HL0 : Hid (L = 0) := hL0
                    clear hz hsay2 c0 c1 c2 c3 c4 HSay HZn hn1 hL0
                    go_wp2
                    have h5 : Gt W3 ((W3.alloc (.cells (zArr L) 5)).alloc (.cells (fArr L) 4)) L 0 (rowQ Q) := Gt.new W3 L (rowQ Q)
                    generalize ((W3.alloc (.cells (zArr L) 5)).alloc (.cells (fArr L) 4)) = W5 at *
                    have H5 : Hid (Gt W3 W5 L 0 (rowQ Q)) := h5
                    clear h5 hmk1 hmk2
                    go_loopw [23, 24] (fun nv i wr => i = .int .i64 0 ∧ nv = .int .i64 0 ∧ Hid (Below W3.heap.size W3 wr)) (fun _ _ _ => 0)
                    case atStart => exact ⟨rfl, rfl, H5.out.bel⟩
                    case round =>
                      obtain ⟨rfl, rfl, HG⟩ := hrel
                      generalize wr = wl at *
                      obtain ⟨c0, c1, c2, c3, c4, r2, r3⟩ := HCs.out wl HG.out
                      have n0 : (0 : Int) < (n : Int) := by omega
                      have n2 : ((1 : Int) == (n : Int)) = true := by have := HN1.out; rw [beq_iff_eq]; omega
                      have n3 : ((n : Int) == 1) = true := by have := HN1.out; rw [beq_iff_eq]; omega
                      go_upto_region 38 with fail
                      go_cut [211] from 163 to 210 (fun v w9 => v = .bool false ∧ ∃ q, w9 = wl.drewN q)
                      case first => as_aux_lemma =>
                        rcases ex with _ | _
                        · go_wp2
                          go_quiet (fail)
                          go_wp2
                          go_meet
                          exact ⟨rfl, _, rfl⟩
                        · have hco : eo = off := HEo.out
                          have hcb : ((eo : Int) != (off : Int)) = false := by rw [hco]; simp
                          have hcc : (eo : Int) = (off : Int) := by rw [hco]
                          go_wp2
                          go_quiet (fail)
                          go_wp2
                          go_meet
                          exact ⟨rfl, _, rfl⟩
                      case rest =>
                        obtain ⟨rfl, q9, rfl⟩ := hcut
                        clear c0 c1 c2 c3 c4 r2 r3
                        have HGm : Hid (Below W3.heap.size W3 (wl.drewN q9)) := HG.out.trans ((below_drewN wl q9).mono HG.out.size)
                        have HB6 : Hid (Below w.heap.size w (wl.drewN q9)) := H3.out.bel.trans (HGm.out.mono H3.out.bel.size)
                        generalize wl.drewN q9 = W6 at *
                        obtain ⟨c0, c1, c2, c3, c4, r2, r3⟩ := HCs.out W6 HGm.out
                        have hLz : ((L : Int) == 0) = true := by have := HL0.out; rw [beq_iff_eq]; omega
                        go_wp2_with fail
                        refine (alive_any W6).mono ?_
                        rintro e W8 ⟨rfl, hb8⟩
                        have HB8 : Hid (Below w.heap.size w W8) := HB6.out.trans (hb8.mono HB6.out.size)
                        clear hb8
                        go_wp2
                        go_ret
                        exact ⟨rfl, HB8.out⟩
                · as_aux_lemma =>
                    obtain ⟨G, hz, hgok, hgr, hdf1, _, hg0⟩ := zT_segs (df := df) (ck := ck) (eo := eo) HPie.out HDl.out (by omega) hL0
                    have hGn : G.length = n := by rw [← segS_len ck eo G off, ← hz]; exact HZn.out
                    have HGr : Hid (G.flatMap (·.2) = rowQ Q) := hgr.trans HR.out
                    have hsay2 := HSay.out
                    rw [hz] at hsay2
                    have HSg : Hid (K.map Ck.say = doneS (segS ck eo off G)) := hsay2
                    have HGok : Hid (∀ x ∈ G, SgOk df x) := hgok
                    have HGn : Hid (G.length = n) := hGn
                    have HD1 : Hid (df = true → n = 1) := fun e => by rw [← hGn]; exact hdf1 e
                    clear hz hgok hgr hdf1 hg0 hsay2 hGn HSay HZn
                    go_wp2
                    have h5 : Gt W3 ((W3.alloc (.cells (zArr L) 5)).alloc (.cells (fArr L) 4)) L 0 (rowQ Q) := Gt.new W3 L (rowQ Q)
                    generalize ((W3.alloc (.cells (zArr L) 5)).alloc (.cells (fArr L) 4)) = W5 at *
                    have H5 : Hid (Gt W3 W5 L 0 (rowQ Q)) := h5
                    clear h5 hmk1 hmk2
                    go_loopw [23, 24] (fun nv i wr => ∃ (k s : Nat), k ≤ n ∧ i = .int .i64 (k : Int) ∧ nv = .int .i64 (s : Int) ∧ Hid (s = ((G.take k).flatMap (·.2)).length) ∧ Hid (Gt W3 wr L s (rowQ Q))) (fun _ i _ => n - (intOf i).toNat)
                    case atStart => exact ⟨0, 0, Nat.zero_le _, rfl, rfl, (show (0 : Nat) = _ by simp), H5⟩
                    case round =>
                      obtain ⟨k, s, hk, rfl, rfl, HS2, HG⟩ := hrel
                      clear H5
                      generalize wr = wl at *
                      by_cases hlt : k < n
                      · as_aux_lemma =>
                          have hkK : k < K.length := by rw [HKl.out]; exact hlt
                          have hkG : k < G.length := by rw [HGn.out]; exact hlt
                          have hkz : (k : Int) < (n : Int) := by omega
                          have hkn : ¬ (k : Int) < 0 := by omega
                          have hsd := seg_say HSg.out HGn.out hkK hkG
                          have hsok := HGok.out _ (List.getElem_mem hkG)
                          have hfa := fm_at HGr.out hkG
                          have hft := fm_take G k hkG
                          have hdat := HK.out.dat _ (List.getElem_mem hkK)
                          have c0 := HG.out.old (HK.out.cell k 0 hkK (by decide))
                          have c1 := HG.out.old (HK.out.cell k 1 hkK (by decide))
                          have c2 := HG.out.old (HK.out.cell k 2 hkK (by decide))
                          have c3 := HG.out.old (HK.out.cell k 3 hkK (by decide))
                          have c4 := HG.out.old (HK.out.cell k 4 hkK (by decide))
                          rw [← HS2.out] at hsd hfa hft
                          generalize K[k] = c at *
                          generalize G[k] = x at *
                          obtain ⟨cfl, cty, cck, coff, cao, ccap, cd⟩ := c
                          obtain ⟨xh, xd⟩ := x
                          simp only at hsd hsok hfa hft hdat c0 c1 c2 c3 c4
                          obtain ⟨hs1, hs2, hs3, hs4, hs5⟩ := hsd
                          subst hs3 hs4
                          obtain ⟨m, hm⟩ : ∃ m, xd.length = m := ⟨_, rfl⟩
                          rw [hm, HT.out.len] at hfa
                          rw [hm] at hft hs5
                          have hm0 : 0 < m := by rw [← hm]; exact hsok.pos
                          have hm1 : m < 4294967296 := by rw [← hm]; exact hsok.len
                          have hsm : s + m ≤ L := hfa.1
                          have HM : Hid (xd.length = m) := hm
                          have HSok : Hid (SgOk df (xh, xd)) := hsok
                          have HAt : Hid (∀ j, j < m → (rowQ Q)[s + j]? = xd[j]?) := hfa.2
                          have HNx : Hid (s + m = ((G.take (k + 1)).flatMap (·.2)).length) := hft.symm
                          have hbr : BRow wl cao ccap cd := (brow_own hdat.1 rfl hdat.2 (by rw [hs5]; split <;> simp [hoL, daL, bigTo_length] <;> omega)).later HG.out.bel
                          have HCf : Hid (cfl = if k + 1 = n then 1 else 0) := hs1
                          have HCt : Hid (cty = if xh = true then 2 else 1) := hs2
                          obtain ⟨os, hos⟩ : ∃ os, os = off + s := ⟨_, rfl⟩
                          rw [← hos] at hs5
                          have HOs : Hid (os = off + s) := hos
                          have HCd : Hid (cd = if xh = true then hoL os m else daL os xd) := hs5
                          have HBr : Hid (BRow wl cao ccap cd) := hbr
                          clear hs1 hs2 hs5 hm hsok hfa hft hdat hbr hos
                          have r0 : wl.cell? ⟨w.heap.size, 0, none⟩ = some (.int .u16 (fl : Int)) := HG.out.old (by rw [blk_at H3.out.rb]; rfl)
                          have r2 : wl.cell? ⟨w.heap.size, 2, none⟩ = some (.int .u64 (cck : Int)) := HG.out.old (by rw [blk_at H3.out.rb]; rfl)
                          have r3 : wl.cell? ⟨w.heap.size, 3, none⟩ = some (.int .u64 (off : Int)) := HG.out.old (by rw [blk_at H3.out.rb]; rfl)
                          have wk : IntKind.i64.wrap ((k : Int) + 1) = (k : Int) + 1 := by rw [IntKind.wrap_i64]; omega
                          have HC4 : Hid (∀ W, Below wl.heap.size wl W → W.cell? ⟨g, k * 5 + 1, none⟩ = some (.int .u16 (cty : Int)) ∧ W.cell? ⟨g, k * 5 + 4, none⟩ = some (.slice cao cd.length ccap) ∧ W.cell? ⟨w.heap.size, 0, none⟩ = some (.int .u16 (fl : Int))) := fun W hb => ⟨cell_later hb c1, cell_later hb c4, cell_later hb r0⟩
                          simp [Ck.cells] at c0 c1 c2 c3 c4
                          go_upto_region 38 with fail
                          go_cut [211] from 163 to 210 (fun v w9 => v = .bool false ∧ ∃ q, w9 = wl.drewN q)
                          case first => as_aux_lemma =>
                            by_cases hlast : k + 1 = n
                            · rcases ex with _ | _
                              · have hcf : cfl = 1 := by rw [HCf.out, if_pos hlast]
                                subst hcf
                                have e1 : (k : Int) + 1 = (n : Int) := by omega
                                have e2 : ((k : Int) + 1 == (n : Int)) = true := by rw [beq_iff_eq]; omega
                                go_wp2
                                go_quiet (fail)
                                go_wp2
                                go_meet
                                exact ⟨rfl, _, rfl⟩
                              · have hcf : cfl = 1 := by rw [HCf.out, if_pos hlast]
                                subst hcf
                                have e1 : (k : Int) + 1 = (n : Int) := by omega
                                have e2 : ((k : Int) + 1 == (n : Int)) = true := by rw [beq_iff_eq]; omega
                                have hco : coff = off := HEo.out
                                have hcb : ((coff : Int) != (off : Int)) = false := by rw [hco]; simp
                                have hcc : (coff : Int) = (off : Int) := by rw [hco]
                                go_wp2
                                go_quiet (fail)
                                go_wp2
                                go_meet
                                exact ⟨rfl, _, rfl⟩
                            · rcases ex with _ | _
                              · have hcf : cfl = 0 := by rw [HCf.out, if_neg hlast]
                                subst hcf
                                have e1 : ¬ (k : Int) + 1 = (n : Int) := by omega
                                have e2 : ((k : Int) + 1 == (n : Int)) = false := by rw [beq_eq_false_iff_ne]; omega
                                go_wp2
                                go_quiet (fail)
                                go_wp2
                                go_meet
                                exact ⟨rfl, _, rfl⟩
                              · have hcf : cfl = 0 := by rw [HCf.out, if_neg hlast]
                                subst hcf
                                have e1 : ¬ (k : Int) + 1 = (n : Int) := by omega
                                have e2 : ((k : Int) + 1 == (n : Int)) = false := by rw [beq_eq_false_iff_ne]; omega
                                have hco : coff = off := HEo.out
                                have hcb : ((coff : Int) != (off : Int)) = false := by rw [hco]; simp
                                have hcc : (coff : Int) = (off : Int) := by rw [hco]
                                go_wp2
                                go_quiet (fail)
                                go_wp2
                                go_meet
                                exact ⟨rfl, _, rfl⟩
                          case rest =>
                            obtain ⟨rfl, q9, rfl⟩ := hcut
                            clear c0 c1 c2 c3 c4 r0 r2 r3 wk
                            have HGm : Hid (Gt W3 (wl.drewN q9) L s (rowQ Q)) := HG.out.later (below_drewN wl q9)
                            have hc4 := HC4.out _ (below_drewN wl q9)
                            have HBm : Hid (BRow (wl.drewN q9) cao ccap cd) := HBr.out.later (below_drewN wl q9)
                            generalize wl.drewN q9 = wm at *
                            obtain ⟨c1, c4, r0⟩ := hc4
                            have hos64 : os < 18446744073709551616 := by have := HOs.out; omega
                            have HR3 : Hid (∀ W, Below W3.heap.size W3 W → W.cell? ⟨w.heap.size, 3, none⟩ = some (.int .u64 (off : Int))) := fun W hb => cell_later hb (by rw [blk_at H3.out.rb]; rfl)
                            clear HC4 HBr HG
                            rcases xh with _ | _
                            · as_aux_lemma =>
                                have hct : cty = 1 := HCt.out
                                subst hct
                                have hcd : cd = daL os xd := HCd.out
                                subst hcd
                                have hcl : (daL os xd).length = 8 + m := by simp [daL, bigTo_length, HM.out]
                                rw [hcl] at c4
                                have HUn : Hid _ := unpackData os m cao ccap xd wm hos64 HM.out hm0 HBm.out
                                clear HBm HCd hcl
                                go_wp2_with fail
                                refine Calls.mono HUn.out ?_
                                rintro e W6 ⟨da, dc, rfl, hr6⟩
                                obtain ⟨db, hdb⟩ := row_some hr6 (by rw [HM.out]; exact hm0)
                                subst hdb
                                have H7 : Hid (Gt W3 (W6.alloc (.cells #[.int .u64 (os : Int), .slice (some ⟨db, 0, none⟩) m dc] 72)) L s (rowQ Q) ∧ Apt W3 (W6.alloc (.cells #[.int .u64 (os : Int), .slice (some ⟨db, 0, none⟩) m dc] 72)) db xd ∧ (W6.alloc (.cells #[.int .u64 (os : Int), .slice (some ⟨db, 0, none⟩) m dc] 72)).heap[W6.heap.size]? = some (.cells #[.int .u64 (os : Int), .slice (some ⟨db, 0, none⟩) m dc] 72 (0, 0)) ∧ m ≤ dc) := ⟨(HGm.out.later hr6.bel).later (below1 W6 _), apt_of (W0 := w) HGm.out.size (by have h9 := owns_same hr6.own (fun g hg => (below1 W6 (.cells #[.int .u64 (os : Int), .slice (some ⟨db, 0, none⟩) m dc] 72)).block g (owns_lt hr6.own g hg).1); rw [HM.out] at h9; exact h9) HM.out, heap_new W6 _, by have := (owns_cap hr6.own).1; rw [HM.out] at this; exact this⟩
                                clear hr6 HUn HGm c1 c4 r0
                                go_upto_region 45 with fail
                                generalize (W6.alloc (.cells #[.int .u64 (os : Int), .slice (some ⟨db, 0, none⟩) m dc] 72)) = W7 at *
                                have x0 : W7.cell? ⟨W6.heap.size, 0, none⟩ = some (.int .u64 (os : Int)) := by rw [blk_at H7.out.2.2.1]; rfl
                                have x1 : W7.cell? ⟨W6.heap.size, 1, none⟩ = some (.slice (some ⟨db, 0, none⟩) m dc) := by rw [blk_at H7.out.2.2.1]; rfl
                                go_cut [25, 26, 27] from 163 to 331 (fun ov dv sv w9 => ov = .int .u64 (os : Int) ∧ dv = .slice (some ⟨db, 0, none⟩) m dc ∧ sv = .int .i64 (m : Int) ∧ ∃ q, w9 = W7.drewN q)
                                case first =>
                                  go_quiet (fail)
                                  go_wp2
                                  go_meet
                                  exact ⟨rfl, rfl, rfl, _, rfl⟩
                                case rest =>
                                  obtain ⟨rfl, rfl, rfl, q7, rfl⟩ := hcut
                                  have HD : Hid (Gt W3 (W7.drewN q7) L s (rowQ Q) ∧ Apt W3 (W7.drewN q7) db xd ∧ m ≤ dc) := ⟨H7.out.1.later (below_drewN W7 q7), fun W k => H7.out.2.1 W ((KeptIn.ofBelow (below_drewN W7 q7)).trans k (fun g _ h => h)), H7.out.2.2.2⟩
                                  clear H7 x0 x1
                                  generalize W7.drewN q7 = wd at *
                                  go_wp2_with fail
                                  refine (num_any 0 wd).mono ?_
                                  rintro e W' ⟨rfl, hw⟩
                                  rw [hw]; clear hw
                                  clear HSok HCt HCf HD1 HEo
                                  have a1 : IntKind.u64.wrap ((os : Int) - (off : Int)) = (s : Int) := by have := HOs.out; rw [IntKind.wrap_u64]; omega
                                  have a2 : ¬ (os : Int) < (off : Int) := by have := HOs.out; omega
                                  have hLc : IntKind.u64.wrap (L : Int) = (L : Int) := by rw [IntKind.wrap_u64]; omega
                                  go_wp2
                                  go_loopw [23, 32] (fun nv kv wx => ∃ (j sj : Nat), j ≤ m ∧ kv = .int .i64 (j : Int) ∧ nv = .int .i64 (sj : Int) ∧ Hid (sj = s + j) ∧ Hid (Gt W3 wx L sj (rowQ Q)) ∧ Hid (KeptIn (fun g => g = W3.heap.size ∨ g = W3.heap.size + 1) wd wx)) (fun _ kv _ => m - (intOf kv).toNat)
                                  case atStart => exact ⟨0, s, Nat.zero_le _, rfl, rfl, (show s = s + 0 by omega), HD.out.1, KeptIn.refl _ _⟩
                                  case round =>
                                    obtain ⟨j, sj, hj, rfl, rfl, HSj, HGj, HKj⟩ := hrel
                                    generalize wr = wx at *
                                    by_cases hjm : j < m
                                    · have hsj : sj < L := by have := HSj.out; omega
                                      obtain ⟨y, hy⟩ : ∃ y, xd[j]? = some y := ⟨_, List.getElem?_eq_getElem (by rw [HM.out]; exact hjm)⟩
                                      have HRy : Hid ((rowQ Q)[sj]? = some y) := by
                                        show _ = _
                                        rw [HSj.out, HAt.out j hjm]; exact hy
                                      have hdy := HD.out.2.1 wx HKj.out j y hy
                                      have ht := HGj.out.told hsj
                                      have r3 := HR3.out wx HGj.out.bel
                                      obtain ⟨t1, t2⟩ := ht
                                      have b1 : IntKind.u64.wrap (j : Int) = (j : Int) := by rw [IntKind.wrap_u64]; omega
                                      have b2 : IntKind.u64.wrap ((s : Int) + (j : Int)) = (sj : Int) := by have := HSj.out; rw [IntKind.wrap_u64]; omega
                                      have b3 : ¬ (L : Int) ≤ (sj : Int) := by omega
                                      have b4 : (sj : Int) < (L : Int) := by omega
                                      have b5 : ¬ (sj : Int) < 0 := by omega
                                      have b6 : (j : Int) < (m : Int) := by omega
                                      have b7 : ¬ (j : Int) < 0 := by omega
                                      have hdc : (m : Int) ≤ (dc : Int) := by have := HD.out.2.2; omega
                                      clear hy
                                      go_upto_region 61 with fail
                                      obtain ⟨W6, hW6⟩ : ∃ W6, W6 = wx.setCell ⟨W3.heap.size + 1, sj, none⟩ (.bool true) := ⟨_, rfl⟩
                                      have k6 : KeptIn (fun g => g = W3.heap.size + 1) wx W6 := hW6 ▸ keptIn_set wx _ _ _
                                      have d6 : W6.cell? ⟨db, j, none⟩ = some (.int .u8 (y : Int)) := HD.out.2.1 W6 (HKj.out.trans (k6.mono (fun g _ e => Or.inr e)) (fun g _ h => h)) j y (by have h1 := HRy.out; rw [HSj.out, HAt.out j hjm] at h1; exact h1)
                                      have g6 : W6.heap[W3.heap.size]? = some (.cells (((rowQ Q).take sj ++ List.replicate (L - sj) 0).map bv).toArray 5 (0, 0)) := by rw [k6.block _ (block_lt HGj.out.g) (by omega)]; exact HGj.out.g
                                      have f6 : W6.frozen? ⟨W3.heap.size, sj, none⟩ = false := blk_free g6 sj
                                      have e6 : ∃ u, W6.cell? ⟨W3.heap.size, sj, none⟩ = some (.int .u8 u) := got_cell g6 hsj (by rw [HT.out.len]; omega)
                                      obtain ⟨u6, e6⟩ := e6
                                      have HSt : Hid (∀ W7, W7 = W6.setCell ⟨W3.heap.size, sj, none⟩ (.int .u8 (y : Int)) → Gt W3 W7 L (sj + 1) (rowQ Q) ∧ KeptIn (fun g => g = W3.heap.size ∨ g = W3.heap.size + 1) wx W7) := fun W7 e => HGj.out.step hsj HT.out.len HRy.out hW6 e
                                      clear t1 t2 r3 hdy g6 k6
                                      rw [← hW6]
                                      clear hW6
                                      go_wp2
                                      have hst := HSt.out _ rfl
                                      go_roundw
                                      case rel => exact ⟨j + 1, sj + 1, by omega, by go_num, by go_num, (by show sj + 1 = s + (j + 1); rw [HSj.out]; omega), hst.1, HKj.out.trans hst.2 (fun g _ h => h)⟩
                                      case measure => simp [intOf]; omega
                                    · have hjm' : j = m := by omega
                                      subst hjm'
                                      have HGn : Hid (Gt W3 wx L sj (rowQ Q)) := HGj.out
                                      have HSn : Hid (sj = ((G.take (k + 1)).flatMap (·.2)).length) := HSj.out.trans HNx.out
                                      clear HGj HKj
                                      go_wp2
                                      go_roundw
                                      case rel => exact ⟨k + 1, sj, by omega, by go_num, rfl, HSn.out, HGn.out⟩
                                      case measure => simp [intOf]; omega
                            · as_aux_lemma =>
                                have hct : cty = 2 := HCt.out
                                subst hct
                                have hcd : cd = hoL os m := HCd.out
                                subst hcd
                                have hcl : (hoL os m).length = 12 := by simp [hoL, bigTo_length]
                                rw [hcl] at c4
                                have HUn : Hid _ := unpackHole os m cao ccap wm hos64 hm1 HBm.out
                                have hdf : df = false := by
                                  rcases df with _ | _
                                  · rfl
                                  · exact absurd (show true = false from HSok.out.dfh rfl) (by decide)
                                have hb4 : bits .and .u16 (fl : Int) 4 = 0 := by have := HDf.out; rw [hdf] at this; exact this
                                clear HBm HCd hcl
                                go_wp2_with fail
                                refine Calls.mono HUn.out ?_
                                rintro e W6 ⟨rfl, hb6⟩
                                have H7 : Hid (Gt W3 (W6.alloc (.cells #[.int .u64 (os : Int), .int .u32 (m : Int)] 76)) L s (rowQ Q) ∧ (W6.alloc (.cells #[.int .u64 (os : Int), .int .u32 (m : Int)] 76)).heap[W6.heap.size]? = some (.cells #[.int .u64 (os : Int), .int .u32 (m : Int)] 76 (0, 0)) ∧ (W6.alloc (.cells #[.int .u64 (os : Int), .int .u32 (m : Int)] 76)).cell? ⟨w.heap.size, 0, none⟩ = some (.int .u16 (fl : Int))) := ⟨(HGm.out.later hb6).later (below1 W6 _), heap_new W6 _, cell_later (below1 W6 _) (cell_later hb6 r0)⟩
                                clear hb6 HUn HGm c1 c4 r0
                                go_upto_region 50 with fail
                                generalize (W6.alloc (.cells #[.int .u64 (os : Int), .int .u32 (m : Int)] 76)) = W7 at *
                                have x0 : W7.cell? ⟨W6.heap.size, 0, none⟩ = some (.int .u64 (os : Int)) := by rw [blk_at H7.out.2.1]; rfl
                                have x1 : W7.cell? ⟨W6.heap.size, 1, none⟩ = some (.int .u32 (m : Int)) := by rw [blk_at H7.out.2.1]; rfl
                                have wm9 : IntKind.i64.wrap (m : Int) = (m : Int) := by rw [IntKind.wrap_i64]; omega
                                go_cut [25, 27] from 163 to 331 (fun ov sv w9 => ov = .int .u64 (os : Int) ∧ sv = .int .i64 (m : Int) ∧ ∃ q, w9 = W7.drewN q)
                                case first =>
                                  go_quiet (fail)
                                  go_wp2
                                  go_meet
                                  exact ⟨rfl, rfl, _, rfl⟩
                                case rest =>
                                  obtain ⟨rfl, rfl, q7, rfl⟩ := hcut
                                  have HD0' : Hid (Gt W3 (W7.drewN q7) L s (rowQ Q)) := H7.out.1.later (below_drewN W7 q7)
                                  have r0 : (W7.drewN q7).cell? ⟨w.heap.size, 0, none⟩ = some (.int .u16 (fl : Int)) := cell_later (below_drewN W7 q7) H7.out.2.2
                                  clear H7 x0 x1
                                  generalize W7.drewN q7 = wd at *
                                  go_wp2_with fail
                                  refine (num_any 0 wd).mono ?_
                                  rintro e W' ⟨rfl, hw⟩
                                  rw [hw]; clear hw
                                  have hmk := fun w => run_zerosI w (n := m) (by omega)
                                  go_upto_region 54 with fail
                                  have HD : Hid (Gt W3 (wd.alloc (.cells (zArr m) 5)) L s (rowQ Q) ∧ Apt W3 (wd.alloc (.cells (zArr m) 5)) wd.heap.size xd ∧ m ≤ m) := ⟨HD0'.out.later (below1 wd _), apt_zero HD0'.out.size (by have := HSok.out.zer rfl; simp only at this; rw [HM.out] at this; exact this), Nat.le_refl _⟩
                                  clear HD0' r0 hmk
                                  obtain ⟨db, hdb⟩ : ∃ db, wd.heap.size = db := ⟨_, rfl⟩
                                  obtain ⟨dc, hdc⟩ : ∃ dc, m = dc := ⟨_, rfl⟩
                                  rw [hdb] at HD ⊢
                                  clear hdb hdc dc
                                  generalize (wd.alloc (.cells (zArr m) 5)) = wd at *
                                  clear HSok HCt HCf HD1 HEo
                                  have a1 : IntKind.u64.wrap ((os : Int) - (off : Int)) = (s : Int) := by have := HOs.out; rw [IntKind.wrap_u64]; omega
                                  have a2 : ¬ (os : Int) < (off : Int) := by have := HOs.out; omega
                                  have hLc : IntKind.u64.wrap (L : Int) = (L : Int) := by rw [IntKind.wrap_u64]; omega
                                  go_wp2
                                  go_loopw [23, 32] (fun nv kv wx => ∃ (j sj : Nat), j ≤ m ∧ kv = .int .i64 (j : Int) ∧ nv = .int .i64 (sj : Int) ∧ Hid (sj = s + j) ∧ Hid (Gt W3 wx L sj (rowQ Q)) ∧ Hid (KeptIn (fun g => g = W3.heap.size ∨ g = W3.heap.size + 1) wd wx)) (fun _ kv _ => m - (intOf kv).toNat)
                                  case atStart => exact ⟨0, s, Nat.zero_le _, rfl, rfl, (show s = s + 0 by omega), HD.out.1, KeptIn.refl _ _⟩
                                  case round =>
                                    obtain ⟨j, sj, hj, rfl, rfl, HSj, HGj, HKj⟩ := hrel
                                    generalize wr = wx at *
                                    by_cases hjm : j < m
                                    · have hsj : sj < L := by have := HSj.out; omega
                                      obtain ⟨y, hy⟩ : ∃ y, xd[j]? = some y := ⟨_, List.getElem?_eq_getElem (by rw [HM.out]; exact hjm)⟩
                                      have HRy : Hid ((rowQ Q)[sj]? = some y) := by
                                        show _ = _
                                        rw [HSj.out, HAt.out j hjm]; exact hy
                                      have hdy := HD.out.2.1 wx HKj.out j y hy
                                      have ht := HGj.out.told hsj
                                      have r3 := HR3.out wx HGj.out.bel
                                      obtain ⟨t1, t2⟩ := ht
                                      have b1 : IntKind.u64.wrap (j : Int) = (j : Int) := by rw [IntKind.wrap_u64]; omega
                                      have b2 : IntKind.u64.wrap ((s : Int) + (j : Int)) = (sj : Int) := by have := HSj.out; rw [IntKind.wrap_u64]; omega
                                      have b3 : ¬ (L : Int) ≤ (sj : Int) := by omega
                                      have b4 : (sj : Int) < (L : Int) := by omega
                                      have b5 : ¬ (sj : Int) < 0 := by omega
                                      have b6 : (j : Int) < (m : Int) := by omega
                                      have b7 : ¬ (j : Int) < 0 := by omega
                                      have hdc : (m : Int) ≤ (m : Int) := by have := HD.out.2.2; omega
                                      clear hy
                                      go_upto_region 61 with fail
                                      obtain ⟨W6, hW6⟩ : ∃ W6, W6 = wx.setCell ⟨W3.heap.size + 1, sj, none⟩ (.bool true) := ⟨_, rfl⟩
                                      have k6 : KeptIn (fun g => g = W3.heap.size + 1) wx W6 := hW6 ▸ keptIn_set wx _ _ _
                                      have d6 : W6.cell? ⟨db, j, none⟩ = some (.int .u8 (y : Int)) := HD.out.2.1 W6 (HKj.out.trans (k6.mono (fun g _ e => Or.inr e)) (fun g _ h => h)) j y (by have h1 := HRy.out; rw [HSj.out, HAt.out j hjm] at h1; exact h1)
                                      have g6 : W6.heap[W3.heap.size]? = some (.cells (((rowQ Q).take sj ++ List.replicate (L - sj) 0).map bv).toArray 5 (0, 0)) := by rw [k6.block _ (block_lt HGj.out.g) (by omega)]; exact HGj.out.g
                                      have f6 : W6.frozen? ⟨W3.heap.size, sj, none⟩ = false := blk_free g6 sj
                                      have e6 : ∃ u, W6.cell? ⟨W3.heap.size, sj, none⟩ = some (.int .u8 u) := got_cell g6 hsj (by rw [HT.out.len]; omega)
                                      obtain ⟨u6, e6⟩ := e6
                                      have HSt : Hid (∀ W7, W7 = W6.setCell ⟨W3.heap.size, sj, none⟩ (.int .u8 (y : Int)) → Gt W3 W7 L (sj + 1) (rowQ Q) ∧ KeptIn (fun g => g = W3.heap.size ∨ g = W3.heap.size + 1) wx W7) := fun W7 e => HGj.out.step hsj HT.out.len HRy.out hW6 e
                                      clear t1 t2 r3 hdy g6 k6
                                      rw [← hW6]
                                      clear hW6
                                      go_wp2
                                      have hst := HSt.out _ rfl
                                      go_roundw
                                      case rel => exact ⟨j + 1, sj + 1, by omega, by go_num, by go_num, (by show sj + 1 = s + (j + 1); rw [HSj.out]; omega), hst.1, HKj.out.trans hst.2 (fun g _ h => h)⟩
                                      case measure => simp [intOf]; omega
                                    · have hjm' : j = m := by omega
                                      subst hjm'
                                      have HGn : Hid (Gt W3 wx L sj (rowQ Q)) := HGj.out
                                      have HSn : Hid (sj = ((G.take (k + 1)).flatMap (·.2)).length) := HSj.out.trans HNx.out
                                      clear HGj HKj
                                      go_wp2
                                      go_roundw
                                      case rel => exact ⟨k + 1, sj, by omega, by go_num, rfl, HSn.out, HGn.out⟩
                                      case measure => simp [intOf]; omega
                      · as_aux_lemma =>
                          have hkn : k = n := by omega
                          subst hkn
                          have hsL : s = L := by rw [HS2.out, List.take_of_length_le (by rw [HGn.out]; omega), HGr.out]; exact HT.out.len
                          subst hsL
                          have HGot : Hid (BRow wl (some ⟨W3.heap.size, 0, none⟩) s (rowQ Q)) := HG.out.all HT.out.len H3.out.wlt (by omega)
                          have HWant : Hid (BRow wl wo wcap (rowQ Q)) := (brow_own (by have := H3.out.ww; rwa [HT.out.len] at this) HT.out.len H3.out.wlt (by rw [HT.out.len]; omega)).later HG.out.bel
                          have HB5 : Hid (Below w.heap.size w wl) := H3.out.bel.trans (HG.out.bel.mono H3.out.bel.size)
                          have hr0 : wl.cell? ⟨w.heap.size, 0, none⟩ = some (.int .u16 (fl : Int)) := HG.out.old (by rw [blk_at H3.out.rb]; rfl)
                          have HR0 : Hid _ := hr0
                          clear hr0
                          go_wp2_with fail
                          refine (same18 _ _ _ _ _ _ wl HGot.out HWant.out s s HT.out.len HT.out.len).mono ?_
                          rintro e W5 ⟨rfl, q, rfl⟩
                          have HB6 : Hid (Below w.heap.size w (wl.drewN q)) := HB5.out.trans ((below_drewN wl q).mono HB5.out.size)
                          have r0 : (wl.drewN q).cell? ⟨w.heap.size, 0, none⟩ = some (.int .u16 (fl : Int)) := cell_later (below_drewN wl q) HR0.out
                          clear HGot HWant HB5 HR0 HG
                          generalize wl.drewN q = W6 at *
                          rcases df with _ | _
                          · have hb4 : bits .and .u16 (fl : Int) 4 = 0 := HDf.out
                            go_wp2_with fail
                            refine (alive_any W6).mono ?_
                            rintro e W8 ⟨rfl, hb8⟩
                            have HB8 : Hid (Below w.heap.size w W8) := HB6.out.trans (hb8.mono HB6.out.size)
                            clear hb8
                            go_wp2
                            go_ret
                            exact ⟨rfl, HB8.out⟩
                          · have hb4 : bits .and .u16 (fl : Int) 4 = 4 := HDf.out
                            obtain rfl : k = 1 := HD1.out rfl
                            go_wp2_with fail
                            refine (alive_any W6).mono ?_
                            rintro e W8 ⟨rfl, hb8⟩
                            have HB8 : Hid (Below w.heap.size w W8) := HB6.out.trans (hb8.mono HB6.out.size)
                            clear hb8
                            go_wp2
                            go_ret
                            exact ⟨rfl, HB8.out⟩
end Go.Proofs.YtefgdhoapmikhaaDoor
