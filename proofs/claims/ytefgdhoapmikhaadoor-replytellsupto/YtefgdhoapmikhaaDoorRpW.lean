import Derived.Test.YtefgdhoapmikhaaDoorRpU
import Derived.Test.YtefgdhoapmikhaaDoorRpV
import Derived.Deep.RegionHeld3
namespace Go.Proofs.YtefgdhoapmikhaaDoor
open Go.RowKit
set_option linter.unusedVariables false
set_option linter.unusedSimpArgs false
set_option maxRecDepth 100000
def StrC (b b' : Nat) (c0 c1 c2 c3 c4 c5 c6 c7 c8 c9 c10 c11 c12 c13 c14 p0 p1 : Value) (w : World) : Prop := w.cell? ⟨b, 0, none⟩ = some c0 ∧ w.cell? ⟨b, 1, none⟩ = some c1 ∧ w.cell? ⟨b, 2, none⟩ = some c2 ∧ w.cell? ⟨b, 3, none⟩ = some c3 ∧ w.cell? ⟨b, 4, none⟩ = some c4 ∧ w.cell? ⟨b, 5, none⟩ = some c5 ∧ w.cell? ⟨b, 6, none⟩ = some c6 ∧ w.cell? ⟨b, 7, none⟩ = some c7 ∧ w.cell? ⟨b, 8, none⟩ = some c8 ∧ w.cell? ⟨b, 9, none⟩ = some c9 ∧ w.cell? ⟨b, 10, none⟩ = some c10 ∧ w.cell? ⟨b, 11, none⟩ = some c11 ∧ w.cell? ⟨b, 12, none⟩ = some c12 ∧ w.cell? ⟨b, 13, none⟩ = some c13 ∧ w.cell? ⟨b, 14, none⟩ = some c14 ∧ w.cell? ⟨b', 0, none⟩ = some p0 ∧ w.cell? ⟨b', 1, none⟩ = some p1
theorem strC_of {w : World} {b b' : Nat} {c0 c1 c2 c3 c4 c5 c6 c7 c8 c9 c10 c11 c12 c13 c14 p0 p1 p2 p3 : Value} {t t' : TypeId} (h : w.heap[b]? = some (.cells #[c0, c1, c2, c3, c4, c5, c6, c7, c8, c9, c10, c11, c12, c13, c14] t (0, 0))) (h' : w.heap[b']? = some (.cells #[p0, p1, p2, p3] t' (0, 0))) : StrC b b' c0 c1 c2 c3 c4 c5 c6 c7 c8 c9 c10 c11 c12 c13 c14 p0 p1 w := by
  unfold StrC
  simp [blk_at h, blk_at h']
theorem cks_own {w W : World} {v : Value} {L : List Ck} {k : Nat} (h : Cks w W v L) (hk : L.length = k) : W.ownsRow w.heap.size 70 5 v k (L.flatMap Ck.cells) := hk ▸ h.own
/-- the chunk of a piece, behind data that lie at ao -/
def pcK (ck eo : Nat) (D : Pc → List Nat) (p : Pc) (ao : Option Addr) (cap : Nat) : Ck := ⟨0, if p.hole = true then 2 else 1, ck, eo, ao, cap, if p.hole = true then hoL p.off p.ln else daL p.off (D p)⟩
/-- what chunks say, wherever their data lie -/
def Ck.say (c : Ck) : Nat × Nat × Nat × Nat × List Nat := (c.fl, c.ty, c.ck, c.off, c.d)
def pcS (ck eo : Nat) (D : Pc → List Nat) (p : Pc) : Nat × Nat × Nat × Nat × List Nat := (0, if p.hole = true then 2 else 1, ck, eo, if p.hole = true then hoL p.off p.ln else daL p.off (D p))
theorem infoCk : (Tryd.prog.info? 70).map (fun i => (i.zero, i.size, i.bytes)) = some (some (.agg #[.int .u16 0, .int .u16 0, .int .u64 0, .int .u64 0, .slice none 0 0]), 5, 48) := by kernel_rfl
set_option maxHeartbeats 4000000 in
theorem read_some (ix : Int) (st ex : Bool) (co : Option Addr) (cn cc : Nat) (fl ty ck off len : Nat) (d : Value) (cd : Nat) (pl : Bool) (at_ : Nat) (b po n pc : Nat) (lo : Option Addr) (ln lc : Nat) (w : World) (P : List Pc) (D : Pc → List Nat) (h : PRow w (some ⟨b, po, none⟩) P) (HN : Hid (P.length = n)) (hfl : bits .and .u16 (fl : Int) 4 = 0) (eo : Nat) (heo : (eo : Int) = if ex = true then (off : Int) else 0)
    (HD : Hid (∀ p ∈ P, (D p).length = p.n ∧ BRow w p.ao p.cap (D p))) (HP : Hid (∀ p ∈ P, p.hole = false → 0 < p.n ∧ p.n ≤ 70368744177664)) :
    Calls Tryd.prog 71 #[.agg #[.int .i64 ix, .bool st, .bool ex, .slice co cn cc, .int .u16 (fl : Int), .int .u16 (ty : Int), .int .u64 (ck : Int), .int .u64 (off : Int), .int .u64 (len : Int), d, .int .u32 (cd : Int), .bool pl, .int .u64 (at_ : Int), .slice (some ⟨b, po, none⟩) n pc, .slice lo ln lc]] w fun e w' => ∃ v L, e = .returned v ∧ Cks w w' v L ∧ L.map Ck.say = P.map (pcS ck eo D) ∧ Below w.heap.size w w' := by
  have hn : n ≤ 1048576 := HN.out ▸ h.len
  obtain ⟨i0, hi, hz0, hz1, hz2⟩ := info_parts infoCk
  have HR : Hid (PRow w (some ⟨b, po, none⟩) P) := h
  have HEO : Hid ((eo : Int) = if ex = true then (off : Int) else 0) := heo
  clear h heo
  go_enter Tryd.func71, Tryd.ntmps71
  go_wp2
  have hx := mkb1 w #[.int .i64 ix, .bool st, .bool ex, .slice co cn cc, .int .u16 (fl : Int), .int .u16 (ty : Int), .int .u64 (ck : Int), .int .u64 (off : Int), .int .u64 (len : Int), d, .int .u32 (cd : Int), .bool pl, .int .u64 (at_ : Int), .slice (some ⟨b, po, none⟩) n pc, .slice lo ln lc] 105
  generalize w.alloc (Obj.cells #[.int .i64 ix, .bool st, .bool ex, .slice co cn cc, .int .u16 (fl : Int), .int .u16 (ty : Int), .int .u64 (ck : Int), .int .u64 (off : Int), .int .u64 (len : Int), d, .int .u32 (cd : Int), .bool pl, .int .u64 (at_ : Int), .slice (some ⟨b, po, none⟩) n pc, .slice lo ln lc] 105) = W0 at *
  have HX : Hid (Bx1 w W0 #[.int .i64 ix, .bool st, .bool ex, .slice co cn cc, .int .u16 (fl : Int), .int .u16 (ty : Int), .int .u64 (ck : Int), .int .u64 (off : Int), .int .u64 (len : Int), d, .int .u32 (cd : Int), .bool pl, .int .u64 (at_ : Int), .slice (some ⟨b, po, none⟩) n pc, .slice lo ln lc] 105 ∧ Cks w W0 (.slice none 0 0) []) := ⟨hx, (Cks.nil w).later hx.bel⟩
  clear hx
  go_loopw [3, 27] (fun v i wr => ∃ (k : Nat) (vo : Option Addr) (vc : Nat) (L : List Ck), k ≤ n ∧ i = .int .i64 (k : Int) ∧ v = .slice vo k vc ∧ L.length = k ∧ Bx1 w wr #[.int .i64 ix, .bool st, .bool ex, .slice co cn cc, .int .u16 (fl : Int), .int .u16 (ty : Int), .int .u64 (ck : Int), .int .u64 (off : Int), .int .u64 (len : Int), d, .int .u32 (cd : Int), .bool pl, .int .u64 (at_ : Int), .slice (some ⟨b, po, none⟩) n pc, .slice lo ln lc] 105 ∧ Cks w wr (.slice vo k vc) L ∧ L.map Ck.say = (P.take k).map (pcS ck eo D)) (fun _ i _ => n - (intOf i).toNat)
  case atStart => exact ⟨0, none, 0, [], Nat.zero_le _, rfl, rfl, rfl, HX.out.1, HX.out.2, rfl⟩
  case round =>
    obtain ⟨k, vo, vc, L, hk, rfl, rfl, hLk, hbw, hck, hsay⟩ := hrel
    have HB : Hid (Bx1 w wr #[.int .i64 ix, .bool st, .bool ex, .slice co cn cc, .int .u16 (fl : Int), .int .u16 (ty : Int), .int .u64 (ck : Int), .int .u64 (off : Int), .int .u64 (len : Int), d, .int .u32 (cd : Int), .bool pl, .int .u64 (at_ : Int), .slice (some ⟨b, po, none⟩) n pc, .slice lo ln lc] 105) := hbw
    have HK : Hid (Cks w wr (.slice vo k vc) L ∧ L.length = k ∧ L.map Ck.say = (P.take k).map (pcS ck eo D)) := ⟨hck, hLk, hsay⟩
    clear HX hck hLk hsay
    by_cases hlt : k < n
    · have hkl : k < P.length := by rw [HN.out]; exact hlt
      have hrow : PRow wr (some ⟨b, po, none⟩) P := HR.out.later hbw.bel
      have g0 := hrow.cell b po rfl k hkl 0 (by decide)
      have g1 := hrow.cell b po rfl k hkl 1 (by decide)
      have g2 := hrow.cell b po rfl k hkl 2 (by decide)
      have g3 := hrow.cell b po rfl k hkl 3 (by decide)
      have hok := hrow.ok _ (List.getElem_mem hkl)
      have hda := HD.out _ (List.getElem_mem hkl)
      have hpo := HP.out _ (List.getElem_mem hkl)
      have HT : Hid ((P.take (k + 1)).map (pcS ck eo D) = (P.take k).map (pcS ck eo D) ++ [pcS ck eo D P[k]]) := by
        rw [List.take_succ_eq_append_getElem hkl, List.map_append]; rfl
      generalize hp : P[k] = p at *
      clear hp
      have HDA : Hid ((D p).length = p.n ∧ BRow w p.ao p.cap (D p)) := hda
      obtain ⟨o, l, ho, ao, m, cp⟩ := p
      obtain ⟨k1, k2, k3⟩ := hok
      simp only at k1 k2 k3 hpo HDA
      simp only [Pc.cells] at g0 g1 g2 g3
      simp at g0 g1 g2 g3
      have za0 : wr.cell? ⟨w.heap.size, 0, none⟩ = some (.int .i64 ix) := by rw [blk_at hbw.a]; rfl
      have za1 : wr.cell? ⟨w.heap.size, 1, none⟩ = some (.bool st) := by rw [blk_at hbw.a]; rfl
      have za2 : wr.cell? ⟨w.heap.size, 2, none⟩ = some (.bool ex) := by rw [blk_at hbw.a]; rfl
      have za3 : wr.cell? ⟨w.heap.size, 3, none⟩ = some (.slice co cn cc) := by rw [blk_at hbw.a]; rfl
      have za4 : wr.cell? ⟨w.heap.size, 4, none⟩ = some (.int .u16 (fl : Int)) := by rw [blk_at hbw.a]; rfl
      have za5 : wr.cell? ⟨w.heap.size, 5, none⟩ = some (.int .u16 (ty : Int)) := by rw [blk_at hbw.a]; rfl
      have za6 : wr.cell? ⟨w.heap.size, 6, none⟩ = some (.int .u64 (ck : Int)) := by rw [blk_at hbw.a]; rfl
      have za7 : wr.cell? ⟨w.heap.size, 7, none⟩ = some (.int .u64 (off : Int)) := by rw [blk_at hbw.a]; rfl
      have za8 : wr.cell? ⟨w.heap.size, 8, none⟩ = some (.int .u64 (len : Int)) := by rw [blk_at hbw.a]; rfl
      have za9 : wr.cell? ⟨w.heap.size, 9, none⟩ = some (d) := by rw [blk_at hbw.a]; rfl
      have za10 : wr.cell? ⟨w.heap.size, 10, none⟩ = some (.int .u32 (cd : Int)) := by rw [blk_at hbw.a]; rfl
      have za11 : wr.cell? ⟨w.heap.size, 11, none⟩ = some (.bool pl) := by rw [blk_at hbw.a]; rfl
      have za12 : wr.cell? ⟨w.heap.size, 12, none⟩ = some (.int .u64 (at_ : Int)) := by rw [blk_at hbw.a]; rfl
      have za13 : wr.cell? ⟨w.heap.size, 13, none⟩ = some (.slice (some ⟨b, po, none⟩) n pc) := by rw [blk_at hbw.a]; rfl
      have za14 : wr.cell? ⟨w.heap.size, 14, none⟩ = some (.slice lo ln lc) := by rw [blk_at hbw.a]; rfl
      have q0 : ∀ o, (wr.alloc o).cell? ⟨w.heap.size, 0, none⟩ = some (.int .i64 ix) := fun o => cell_later (below1 wr o) za0
      have q1 : ∀ o, (wr.alloc o).cell? ⟨w.heap.size, 1, none⟩ = some (.bool st) := fun o => cell_later (below1 wr o) za1
      have q2 : ∀ o, (wr.alloc o).cell? ⟨w.heap.size, 2, none⟩ = some (.bool ex) := fun o => cell_later (below1 wr o) za2
      have q3 : ∀ o, (wr.alloc o).cell? ⟨w.heap.size, 3, none⟩ = some (.slice co cn cc) := fun o => cell_later (below1 wr o) za3
      have q4 : ∀ o, (wr.alloc o).cell? ⟨w.heap.size, 4, none⟩ = some (.int .u16 (fl : Int)) := fun o => cell_later (below1 wr o) za4
      have q5 : ∀ o, (wr.alloc o).cell? ⟨w.heap.size, 5, none⟩ = some (.int .u16 (ty : Int)) := fun o => cell_later (below1 wr o) za5
      have q6 : ∀ o, (wr.alloc o).cell? ⟨w.heap.size, 6, none⟩ = some (.int .u64 (ck : Int)) := fun o => cell_later (below1 wr o) za6
      have q7 : ∀ o, (wr.alloc o).cell? ⟨w.heap.size, 7, none⟩ = some (.int .u64 (off : Int)) := fun o => cell_later (below1 wr o) za7
      have q8 : ∀ o, (wr.alloc o).cell? ⟨w.heap.size, 8, none⟩ = some (.int .u64 (len : Int)) := fun o => cell_later (below1 wr o) za8
      have q9 : ∀ o, (wr.alloc o).cell? ⟨w.heap.size, 9, none⟩ = some (d) := fun o => cell_later (below1 wr o) za9
      have q10 : ∀ o, (wr.alloc o).cell? ⟨w.heap.size, 10, none⟩ = some (.int .u32 (cd : Int)) := fun o => cell_later (below1 wr o) za10
      have q11 : ∀ o, (wr.alloc o).cell? ⟨w.heap.size, 11, none⟩ = some (.bool pl) := fun o => cell_later (below1 wr o) za11
      have q12 : ∀ o, (wr.alloc o).cell? ⟨w.heap.size, 12, none⟩ = some (.int .u64 (at_ : Int)) := fun o => cell_later (below1 wr o) za12
      have q13 : ∀ o, (wr.alloc o).cell? ⟨w.heap.size, 13, none⟩ = some (.slice (some ⟨b, po, none⟩) n pc) := fun o => cell_later (below1 wr o) za13
      have q14 : ∀ o, (wr.alloc o).cell? ⟨w.heap.size, 14, none⟩ = some (.slice lo ln lc) := fun o => cell_later (below1 wr o) za14
      clear hrow hbw hda za0 za1 za2 za3 za4 za5 za6 za7 za8 za9 za10 za11 za12 za13 za14
      rcases ho with _ | _
      · obtain ⟨hp1, hp2⟩ := hpo rfl
        clear hpo
        have HDt : Hid (∀ W, Below w.heap.size w W → Calls Tryd.prog 98 #[.agg #[.int .i64 ix, .bool st, .bool ex, .slice co cn cc, .int .u16 (fl : Int), .int .u16 (ty : Int), .int .u64 (ck : Int), .int .u64 (off : Int), .int .u64 (len : Int), d, .int .u32 (cd : Int), .bool pl, .int .u64 (at_ : Int), .slice (some ⟨b, po, none⟩) n pc, .slice lo ln lc], .int .u64 (o : Int), .slice ao m cp] W fun e w' => ∃ ao2 cap2, e = .returned (.agg #[.int .u16 0, .int .u16 1, .int .u64 (ck : Int), .int .u64 (eo : Int), .slice ao2 (daL o (D ⟨o, l, false, ao, m, cp⟩)).length cap2]) ∧ Row W w' ao2 cap2 (daL o (D ⟨o, l, false, ao, m, cp⟩))) := fun W hb => HEO.out ▸ sdat_any ix st ex co cn cc fl ty ck off len d cd pl at_ _ _ pc lo ln lc W o m ao cp _ k1 (HDA.out.2.later hb) HDA.out.1 hp1 hp2
        generalize hdl : daL o (D ⟨o, l, false, ao, m, cp⟩) = dl at *
        have HDL : Hid (pcS ck eo D ⟨o, l, false, ao, m, cp⟩ = (0, 1, ck, eo, dl)) := by rw [← hdl]; rfl
        clear hdl
        go_wp2_with fail
        have hW5 : Bx1 w (wr.alloc (Obj.cells #[.int .u64 (o : Int), .int .u32 (l : Int), .bool false, .slice ao m cp] 62)) #[.int .i64 ix, .bool st, .bool ex, .slice co cn cc, .int .u16 (fl : Int), .int .u16 (ty : Int), .int .u64 (ck : Int), .int .u64 (off : Int), .int .u64 (len : Int), d, .int .u32 (cd : Int), .bool pl, .int .u64 (at_ : Int), .slice (some ⟨b, po, none⟩) n pc, .slice lo ln lc] 105 ∧ Cks w (wr.alloc (Obj.cells #[.int .u64 (o : Int), .int .u32 (l : Int), .bool false, .slice ao m cp] 62)) (.slice vo k vc) L := ⟨HB.out.later (below1 wr _), HK.out.1.later (below1 wr _)⟩
        generalize (wr.alloc (Obj.cells #[.int .u64 (o : Int), .int .u32 (l : Int), .bool false, .slice ao m cp] 62)) = W5 at *
        refine (HDt.out _ hW5.1.bel).mono ?_
        rintro e W6 ⟨ao2, cap2, rfl, hr⟩
        have H6 : Hid (Bx1 w W6 #[.int .i64 ix, .bool st, .bool ex, .slice co cn cc, .int .u16 (fl : Int), .int .u16 (ty : Int), .int .u64 (ck : Int), .int .u64 (off : Int), .int .u64 (len : Int), d, .int .u32 (cd : Int), .bool pl, .int .u64 (at_ : Int), .slice (some ⟨b, po, none⟩) n pc, .slice lo ln lc] 105 ∧ Cks w W6 (.slice vo k vc) L ∧ W6.ownsRow w.heap.size 5 1 (.slice ao2 dl.length cap2) dl.length (dl.map bv) ∧ ∀ x ∈ dl, x < 256) := ⟨hW5.1.later hr.bel, hW5.2.later hr.bel, owns_mono hr.own hW5.1.bel.size, hr.lt⟩
        clear hr hW5 HDt g0 g1 g2 g3 q0 q1 q2 q3 q4 q5 q6 q7 q8 q9 q10 q11 q12 q13 q14
        have hA : ∀ vo' vc' W7, W7.ownsRow w.heap.size 70 5 (.slice vo' (k + 1) vc') (k + 1) (L.flatMap Ck.cells ++ (⟨0, 1, ck, eo, ao2, cap2, dl⟩ : Ck).cells) → (W6.alloc (.cells (⟨0, 1, ck, eo, ao2, cap2, dl⟩ : Ck).cells.toArray 70)).grownBy W7 (Value.slice vo k vc).ownBlock → Bx1 w W7 #[.int .i64 ix, .bool st, .bool ex, .slice co cn cc, .int .u16 (fl : Int), .int .u16 (ty : Int), .int .u64 (ck : Int), .int .u64 (off : Int), .int .u64 (len : Int), d, .int .u32 (cd : Int), .bool pl, .int .u64 (at_ : Int), .slice (some ⟨b, po, none⟩) n pc, .slice lo ln lc] 105 ∧ Cks w W7 (.slice vo' (k + 1) vc') (L ++ [⟨0, 1, ck, eo, ao2, cap2, dl⟩]) := fun vo' vc' W7 ho hg => push_all H6.out.1 (by decide) H6.out.2.1 HK.out.2.1 ⟨0, 1, ck, eo, ao2, cap2, dl⟩ _ H6.out.2.2.1 H6.out.2.2.2 ho hg
        have HA : Hid _ := hA
        have hO : (W6.alloc (.cells (⟨0, 1, ck, eo, ao2, cap2, dl⟩ : Ck).cells.toArray 70)).ownsRow w.heap.size 70 5 (.slice vo k vc) k (L.flatMap Ck.cells) := by have := (H6.out.2.1.later (below1 W6 (.cells (⟨0, 1, ck, eo, ao2, cap2, dl⟩ : Ck).cells.toArray 70))).own; rwa [HK.out.2.1] at this
        have HO : Hid _ := hO
        clear hA hO
        go_wp2_with (at_builtin; refine wpList_append_lies _ rfl _ _ 50 rfl w.heap.size 70 i0 (.agg #[.int .u16 0, .int .u16 0, .int .u64 0, .int .u64 0, .slice none 0 0]) 5 48 Tryd.underlying50 hi hz0 hz1 hz2 rfl (by decide) (.slice vo k vc) k (L.flatMap Ck.cells) rfl HO.out ⟨W6.heap.size, 0, none⟩ 1 1 (⟨0, 1, ck, eo, ao2, cap2, dl⟩ : Ck).cells rfl rfl (news5 W6 ⟨0, 1, ck, eo, ao2, cap2, dl⟩ _) (ck_one _) (by decide) (by unfold maxLen; omega) (by omega) (Nat.le_trans H6.out.1.bel.size (by simp)) (W6.heap.size + 1) (by simp) ?_)
        intro g7 cap7 W7 ho7 hg7 _ _
        have H7 : Hid (Bx1 w W7 #[.int .i64 ix, .bool st, .bool ex, .slice co cn cc, .int .u16 (fl : Int), .int .u16 (ty : Int), .int .u64 (ck : Int), .int .u64 (off : Int), .int .u64 (len : Int), d, .int .u32 (cd : Int), .bool pl, .int .u64 (at_ : Int), .slice (some ⟨b, po, none⟩) n pc, .slice lo ln lc] 105 ∧ Cks w W7 (.slice (some ⟨g7, 0, none⟩) (k + 1) cap7) (L ++ [⟨0, 1, ck, eo, ao2, cap2, dl⟩])) := HA.out _ _ _ ho7 hg7
        clear ho7 hg7 HA HO H6
        go_wp2
        go_roundw
        case rel => exact ⟨k + 1, some ⟨g7, 0, none⟩, cap7, L ++ [⟨0, 1, ck, eo, ao2, cap2, dl⟩], by omega, by go_num, rfl, by simp [HK.out.2.1], H7.out.1, H7.out.2, by rw [List.map_append, HK.out.2.2, HT.out, HDL.out]; rfl⟩
        case measure => simp [intOf]; omega
      · clear hpo
        have HPk : Hid (∀ W, Calls Tryd.prog 99 #[.agg #[.int .u64 (o : Int), .int .u32 (l : Int)]] W fun e w' => ∃ ao cap, e = .returned (.slice ao (hoL o l).length cap) ∧ Row W w' ao cap (hoL o l)) := fun W => packHole o l W k1 k2
        have HCh : Hid (∀ W ao k cap, Calls Tryd.prog 73 #[.agg #[.int .i64 ix, .bool st, .bool ex, .slice co cn cc, .int .u16 (fl : Int), .int .u16 (ty : Int), .int .u64 (ck : Int), .int .u64 (off : Int), .int .u64 (len : Int), d, .int .u32 (cd : Int), .bool pl, .int .u64 (at_ : Int), .slice (some ⟨b, po, none⟩) n pc, .slice lo ln lc], .int .u16 2, .slice ao k cap] W fun e w' => e = .returned (.agg #[.int .u16 0, .int .u16 2, .int .u64 (ck : Int), .int .u64 (eo : Int), .slice ao k cap]) ∧ Below W.heap.size W w') := fun W ao k cap => HEO.out ▸ chunk_any ix st ex co cn cc fl ty ck off len d cd pl at_ _ _ pc lo ln lc W 2 ao k cap
        generalize hdl : hoL o l = dl at *
        have HDL : Hid (pcS ck eo D ⟨o, l, true, ao, m, cp⟩ = (0, 2, ck, eo, dl)) := by rw [← hdl]; rfl
        clear hdl
        go_wp2_with fail
        have hW5 : Bx1 w (wr.alloc (Obj.cells #[.int .u64 (o : Int), .int .u32 (l : Int), .bool true, .slice ao m cp] 62)).drew #[.int .i64 ix, .bool st, .bool ex, .slice co cn cc, .int .u16 (fl : Int), .int .u16 (ty : Int), .int .u64 (ck : Int), .int .u64 (off : Int), .int .u64 (len : Int), d, .int .u32 (cd : Int), .bool pl, .int .u64 (at_ : Int), .slice (some ⟨b, po, none⟩) n pc, .slice lo ln lc] 105 ∧ Cks w (wr.alloc (Obj.cells #[.int .u64 (o : Int), .int .u32 (l : Int), .bool true, .slice ao m cp] 62)).drew (.slice vo k vc) L ∧ (wr.alloc (Obj.cells #[.int .u64 (o : Int), .int .u32 (l : Int), .bool true, .slice ao m cp] 62)).drew.heap[wr.heap.size]? = some (.cells #[.int .u64 (o : Int), .int .u32 (l : Int), .bool true, .slice ao m cp] 62 (0, 0)) := ⟨(HB.out.later (below1 wr _)).later (below_drewN _ 1), (HK.out.1.later (below1 wr _)).later (below_drewN _ 1), heap_new wr _⟩
        generalize (wr.alloc (Obj.cells #[.int .u64 (o : Int), .int .u32 (l : Int), .bool true, .slice ao m cp] 62)) = W5 at *
        have hs5 := strC_of hW5.1.a hW5.2.2
        unfold StrC at hs5
        have H5 : Hid (Bx1 w W5.drew #[.int .i64 ix, .bool st, .bool ex, .slice co cn cc, .int .u16 (fl : Int), .int .u16 (ty : Int), .int .u64 (ck : Int), .int .u64 (off : Int), .int .u64 (len : Int), d, .int .u32 (cd : Int), .bool pl, .int .u64 (at_ : Int), .slice (some ⟨b, po, none⟩) n pc, .slice lo ln lc] 105 ∧ Cks w W5.drew (.slice vo k vc) L ∧ W5.drew.heap[wr.heap.size]? = some (.cells #[.int .u64 (o : Int), .int .u32 (l : Int), .bool true, .slice ao m cp] 62 (0, 0))) := hW5
        clear hW5 g0 g1 g2 g3 q0 q1 q2 q3 q4 q5 q6 q7 q8 q9 q10 q11 q12 q13 q14
        go_region_held3 (fun w' => w'.cell? ⟨w.heap.size, 0, none⟩ = some (.int .i64 ix) ∧ w'.cell? ⟨w.heap.size, 1, none⟩ = some (.bool st) ∧ w'.cell? ⟨w.heap.size, 2, none⟩ = some (.bool ex) ∧ w'.cell? ⟨w.heap.size, 3, none⟩ = some (.slice co cn cc) ∧ w'.cell? ⟨w.heap.size, 4, none⟩ = some (.int .u16 (fl : Int)) ∧ w'.cell? ⟨w.heap.size, 5, none⟩ = some (.int .u16 (ty : Int)) ∧ w'.cell? ⟨w.heap.size, 6, none⟩ = some (.int .u64 (ck : Int)) ∧ w'.cell? ⟨w.heap.size, 7, none⟩ = some (.int .u64 (off : Int)) ∧ w'.cell? ⟨w.heap.size, 8, none⟩ = some (.int .u64 (len : Int)) ∧ w'.cell? ⟨w.heap.size, 9, none⟩ = some (d) ∧ w'.cell? ⟨w.heap.size, 10, none⟩ = some (.int .u32 (cd : Int)) ∧ w'.cell? ⟨w.heap.size, 11, none⟩ = some (.bool pl) ∧ w'.cell? ⟨w.heap.size, 12, none⟩ = some (.int .u64 (at_ : Int)) ∧ w'.cell? ⟨w.heap.size, 13, none⟩ = some (.slice (some ⟨b, po, none⟩) n pc) ∧ w'.cell? ⟨w.heap.size, 14, none⟩ = some (.slice lo ln lc) ∧ w'.cell? ⟨wr.heap.size, 0, none⟩ = some (.int .u64 (o : Int)) ∧ w'.cell? ⟨wr.heap.size, 1, none⟩ = some (.int .u32 (l : Int))) (first | exact hs5 | exact hs6 | exact hs7 | exact hs8 | exact hs9 | go_keep) (first
          | (go_at_call 99; refine (HPk.out _).mono ?_; rintro e W6 ⟨ao2, cap2, rfl, hr⟩; have H6 : Hid (Bx1 w W6 #[.int .i64 ix, .bool st, .bool ex, .slice co cn cc, .int .u16 (fl : Int), .int .u16 (ty : Int), .int .u64 (ck : Int), .int .u64 (off : Int), .int .u64 (len : Int), d, .int .u32 (cd : Int), .bool pl, .int .u64 (at_ : Int), .slice (some ⟨b, po, none⟩) n pc, .slice lo ln lc] 105 ∧ Cks w W6 (.slice vo k vc) L ∧ W6.heap[wr.heap.size]? = some (.cells #[.int .u64 (o : Int), .int .u32 (l : Int), .bool true, .slice ao m cp] 62 (0, 0)) ∧ W6.ownsRow w.heap.size 5 1 (.slice ao2 dl.length cap2) dl.length (dl.map bv) ∧ ∀ x ∈ dl, x < 256) := ⟨H5.out.1.later hr.bel, H5.out.2.1.later hr.bel, box_later H5.out.2.2 hr.bel, owns_mono hr.own H5.out.1.bel.size, hr.lt⟩; have hs6 := strC_of H6.out.1.a H6.out.2.2.1; unfold StrC at hs6; clear hr)
          | (go_at_call 73; refine (HCh.out _ _ _ _).mono ?_; rintro e W7 ⟨rfl, hr⟩; have H7 : Hid (Bx1 w W7 #[.int .i64 ix, .bool st, .bool ex, .slice co cn cc, .int .u16 (fl : Int), .int .u16 (ty : Int), .int .u64 (ck : Int), .int .u64 (off : Int), .int .u64 (len : Int), d, .int .u32 (cd : Int), .bool pl, .int .u64 (at_ : Int), .slice (some ⟨b, po, none⟩) n pc, .slice lo ln lc] 105 ∧ Cks w W7 (.slice vo k vc) L ∧ W7.heap[wr.heap.size]? = some (.cells #[.int .u64 (o : Int), .int .u32 (l : Int), .bool true, .slice ao m cp] 62 (0, 0)) ∧ W7.ownsRow w.heap.size 5 1 (.slice ao2 dl.length cap2) dl.length (dl.map bv) ∧ ∀ x ∈ dl, x < 256) := ⟨H6.out.1.later hr, H6.out.2.1.later hr, box_later H6.out.2.2.1 hr, owns_same H6.out.2.2.2.1 (fun g hg => hr.block g (owns_lt H6.out.2.2.2.1 g hg).1), H6.out.2.2.2.2⟩; have hs7 := strC_of H7.out.1.a H7.out.2.2.1; unfold StrC at hs7; have hs8 := strC_of (H7.out.1.later (below1 W7 (.cells (⟨0, 2, ck, eo, ao2, cap2, dl⟩ : Ck).cells.toArray 70))).a (box_later H7.out.2.2.1 (below1 W7 _)); unfold StrC at hs8; clear hr)
          | (refine step_append_lies _ (by rfl) _ _ 50 (by rfl) w.heap.size 70 i0 (.agg #[.int .u16 0, .int .u16 0, .int .u64 0, .int .u64 0, .slice none 0 0]) 5 48 Tryd.underlying50 hi hz0 hz1 hz2 rfl (by decide) (.slice vo k vc) k (L.flatMap Ck.cells) (by rfl) (cks_own (H7.out.2.1.later (below1 W7 (.cells (⟨0, 2, ck, eo, ao2, cap2, dl⟩ : Ck).cells.toArray 70))) HK.out.2.1) ⟨W7.heap.size, 0, none⟩ 1 1 (⟨0, 2, ck, eo, ao2, cap2, dl⟩ : Ck).cells (by rfl) rfl (news5 W7 ⟨0, 2, ck, eo, ao2, cap2, dl⟩ _) (ck_one _) (by decide) (by unfold maxLen; omega) (by omega) (Nat.le_trans H7.out.1.bel.size (by simp)) (W7.heap.size + 1) (by simp) ?_; intro g8 cap8 W8 ho8 hg8 _ _; have H8 : Hid (Bx1 w W8 #[.int .i64 ix, .bool st, .bool ex, .slice co cn cc, .int .u16 (fl : Int), .int .u16 (ty : Int), .int .u64 (ck : Int), .int .u64 (off : Int), .int .u64 (len : Int), d, .int .u32 (cd : Int), .bool pl, .int .u64 (at_ : Int), .slice (some ⟨b, po, none⟩) n pc, .slice lo ln lc] 105 ∧ Cks w W8 (.slice (some ⟨g8, 0, none⟩) (k + 1) cap8) (L ++ [⟨0, 2, ck, eo, ao2, cap2, dl⟩])) := push_all H7.out.1 (by decide) H7.out.2.1 HK.out.2.1 ⟨0, 2, ck, eo, ao2, cap2, dl⟩ _ H7.out.2.2.2.1 H7.out.2.2.2.2 ho8 hg8; have hs9 := strC_of H8.out.1.a (boxT (box_later H7.out.2.2.1 (below1 W7 _)) (cks_own (H7.out.2.1.later (below1 W7 (.cells (⟨0, 2, ck, eo, ao2, cap2, dl⟩ : Ck).cells.toArray 70))) HK.out.2.1) (by decide) hg8); unfold StrC at hs9; clear ho8 hg8))
        all_goals
          go_wp2
          go_roundw
          case rel => exact ⟨k + 1, some ⟨g8, 0, none⟩, cap8, L ++ [⟨0, 2, ck, eo, ao2, cap2, dl⟩], by omega, by go_num, rfl, by simp [HK.out.2.1], H8.out.1, H8.out.2, by rw [List.map_append, HK.out.2.2, HT.out, HDL.out]; rfl⟩
          case measure => simp [intOf]; omega
    · have HT : Hid (P.take k = P) := List.take_of_length_le (by rw [HN.out]; omega)
      clear hbw
      go_wp2
      go_ret
      exact ⟨_, L, rfl, HK.out.1, by rw [HK.out.2.2, HT.out], HB.out.bel⟩
end Go.Proofs.YtefgdhoapmikhaaDoor
