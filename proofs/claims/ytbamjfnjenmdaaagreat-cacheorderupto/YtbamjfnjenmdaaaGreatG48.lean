import Derived.Test.YtbamjfnjenmdaaaGreatzCOao
import Derived.Test.YtbamjfnjenmdaaaGreatzCZso
namespace Go.Proofs.YtbamjfnjenmdaaaGreat.C
open Go.RowKit Go.Maps Go.Shelf Go.Proofs.YtbamjfnjenmdaaaGreat
set_option linter.unusedVariables false
set_option linter.unusedSimpArgs false
set_option maxRecDepth 100000

/-- the lines are some of those that there were, clean or not -/
def SubL (C C' : Ch) : Prop := C'.notes = C.notes ∧ ∀ l' ∈ C'.L, ∃ l ∈ C.L, l'.sec = l.sec ∧ l'.note = l.note
theorem SubL.refl (C : Ch) : SubL C C := ⟨rfl, fun l hl => ⟨l, hl, rfl, rfl⟩⟩
theorem SubL.trans {C C1 C2 : Ch} (h : SubL C C1) (k : SubL C1 C2) : SubL C C2 := ⟨k.1.trans h.1, fun l hl => by
  obtain ⟨l1, h1, e1, e2⟩ := k.2 l hl
  obtain ⟨l0, h0, e3, e4⟩ := h.2 l1 h1
  exact ⟨l0, h0, e1.trans e3, e2.trans e4⟩⟩
theorem SubL.nt {C C' : Ch} (h : SubL C C') (nt : Nt C) : Nt C' := fun l hl => by
  obtain ⟨l0, h0, e1, e2⟩ := h.2 l hl
  rw [e2, e1, h.1]
  exact nt l0 h0
theorem SubL.drop (C : Ch) (s : Int) (st : Cs) : SubL C { C with L := dropL C.L s, st := st } := ⟨rfl, fun l hl => ⟨l, (List.mem_filter.1 hl).1, rfl, rfl⟩⟩
theorem wb_sub (S : K.Dk) (C : Ch) (s : Int) : SubL C (wbC S C s) := by
  unfold wbC
  split
  · split
    · refine ⟨rfl, fun l hl => ?_⟩
      obtain ⟨x, hx, e⟩ := List.mem_map.1 hl
      refine ⟨x, hx, ?_⟩
      rw [← e]
      split <;> exact ⟨rfl, rfl⟩
    · exact SubL.refl C
  · exact SubL.refl C
theorem backs_sub : ∀ (ks : List Int) (S : K.Dk) (C : Ch), SubL C (backs ks S C).2.2
  | [], S, C => SubL.refl C
  | s :: ks, S, C => by
    rw [backs_cons]
    split
    · exact (wb_sub S C s).trans (backs_sub ks _ _)
    · exact wb_sub S C s
theorem settle_sub (ks : List Int) (S : K.Dk) (C : Ch) : SubL C (settleR ks S C).2.2 := by
  unfold settleR
  split <;> exact backs_sub ks S C
theorem flush_sub (S : K.Dk) (C : Ch) : SubL C (flushR S C).2.2 := by
  unfold flushR
  split
  · split
    · exact settle_sub _ _ _
    · exact (settle_sub _ _ _).trans (settle_sub _ _ _)
  · exact settle_sub _ _ _
theorem gw_sub (S : K.Dk) (C : Ch) (l : Ln) : SubL C (gwR S C l).2.2 := by
  unfold gwR
  split
  · split
    · exact SubL.drop C _ _
    · exact SubL.refl C
  · exact SubL.drop C _ _
theorem room_sub (S : K.Dk) (C : Ch) : SubL C (roomR S C).2.2 := by
  unfold roomR
  split
  · exact SubL.refl C
  · split
    · exact gw_sub _ _ _
    · split
      · split
        · exact (flush_sub S C).trans (gw_sub _ _ _)
        · exact flush_sub S C
      · exact flush_sub S C
theorem through_sub (S : K.Dk) (C : Ch) (ks : List Int) : SubL C (throughR S C ks).2.2 := by
  unfold throughR
  split
  · split
    · exact flush_sub S C
    · exact settle_sub _ _ _
  · exact SubL.refl C
theorem back_sub (S : K.Dk) (C : Ch) : SubL C (backR S C).2.2.2 := by
  unfold backR
  cases C.L.find? dirtyData with
  | none => exact SubL.refl C
  | some l => simp only; split <;> exact wb_sub _ _ _
theorem nt_add {C C' : Ch} (h : Nt C) (hn : C'.notes = C.notes) {l : Ln} (hl : l.note = isN C.notes l.sec) (hL : ∀ x ∈ C'.L, x ∈ C.L ∨ x = l) : Nt C' := fun x hx => by
  rw [hn]
  rcases hL x hx with h1 | h1
  · exact h x h1
  · rw [h1]; exact hl
theorem read_nt {S : K.Dk} {C : Ch} (nt : Nt C) (s : Int) (b : Nat) : Nt (readR S C s b).2.2.2 ∧ (readR S C s b).2.2.2.notes = C.notes := by
  have hsub := room_sub S (missC C)
  have hnt : Nt (roomR S (missC C)).2.2 := hsub.nt nt
  have hno : (roomR S (missC C)).2.2.notes = C.notes := hsub.1
  unfold readR
  split
  · rename_i hi
    split
    · rename_i l hl
      unfold useC
      rw [hl]
      refine ⟨nt_add nt rfl (nt l (lineAt_mem hl).1) (fun x hx => ?_), rfl⟩
      rcases List.mem_append.1 hx with hx | hx
      · exact .inl (List.mem_filter.1 hx).1
      · simp at hx; exact .inr hx
    · split
      · split
        · obtain ⟨t, rfl, _⟩ := inD_nat hi
          refine ⟨nt_add hnt rfl (l := ⟨(t : Int).toNat, b, K.rdL (roomR S (missC C)).2.1 t, false, isN C.notes t⟩) (by rw [hno]; simp) (fun x hx => ?_), hno⟩
          rcases List.mem_append.1 hx with hx | hx
          · exact .inl hx
          · simp at hx; exact .inr (by rw [hx]; simp)
        · exact ⟨hnt, hno⟩
      · exact ⟨hnt, hno⟩
  · exact ⟨nt, rfl⟩
theorem write_nt {S : K.Dk} {C : Ch} (nt : Nt C) (s : Int) (bs : K.Bl) (b : Nat) : Nt (writeR S C s bs b).2.2 ∧ (writeR S C s bs b).2.2.notes = C.notes := by
  have hsub := room_sub S (missC C)
  have hnt : Nt (roomR S (missC C)).2.2 := hsub.nt nt
  have hno : (roomR S (missC C)).2.2.notes = C.notes := hsub.1
  unfold writeR
  split
  · rename_i hi
    split
    · split
      · rename_i l hl
        refine ⟨nt_add nt rfl (l := { l with dat := bs, dirty := true }) (nt l (lineAt_mem hl).1) (fun x hx => ?_), rfl⟩
        rcases List.mem_append.1 hx with hx | hx
        · exact .inl (List.mem_filter.1 hx).1
        · simp at hx; exact .inr hx
      · split
        · obtain ⟨t, rfl, _⟩ := inD_nat hi
          refine ⟨nt_add hnt rfl (l := ⟨(t : Int).toNat, b, bs, true, isN C.notes t⟩) (by rw [hno]; simp) (fun x hx => ?_), hno⟩
          rcases List.mem_append.1 hx with hx | hx
          · exact .inl hx
          · simp at hx; exact .inr (by rw [hx]; simp)
        · exact ⟨hnt, hno⟩
    · exact ⟨nt, rfl⟩
  · exact ⟨nt, rfl⟩
end Go.Proofs.YtbamjfnjenmdaaaGreat.C

namespace Go.Proofs.YtbamjfnjenmdaaaGreat.C
open Go.RowKit Go.Maps Go.Shelf Go.Proofs.YtbamjfnjenmdaaaGreat
set_option linter.unusedVariables false
set_option linter.unusedSimpArgs false
set_option maxRecDepth 100000

abbrev TOp : TypeId := 42
theorem seen_ok {w : World} {P : Loc} {S : K.Dk} {C : Ch} (h : RC w P S C) {t : Nat} (ht : t < S.n) : K.OkB (seen S C t) := by
  unfold seen
  cases hl : lineAt C.L t with
  | some l => exact (h.ok l (lineAt_mem hl).1).2
  | none => exact K.look_ok h.rk ht
section
variable {w0 W W' : World} {bc bd kb n i : Nat} {P P' : Loc} {S S' : K.Dk} {C C' : Ch} {av bw : Value} {A : List Be} {G : Nat → K.Bl}
theorem Kpr.okG (h : Kpr w0 W bc bd kb n i P S C av bw A G) {t : Nat} (ht : t < n) : K.OkB (G t) := by
  rw [h.eq t ht]
  exact seen_ok h.hc.rc (by rw [h.nn]; exact ht)
theorem k_flush (h : Kpr w0 W bc bd kb n i P S C av bw A G) (hi : 8 * i ≤ 1048576) :
    Calls Tryz.prog 13 #[.pointer (some ⟨bc, 0, none⟩)] W fun r W' => ∃ e : Int, r = .returned (.int .i64 e) ∧ ∃ P' S' C', Kpr w0 W' bc bd kb n (i + 1) P' S' C' av bw A G := by
  have hq := h.ql
  obtain ⟨h1, h2, h3, h4⟩ := flush_all h.gd
  have hc := flush_c h.hc.rc h.fs (by omega)
  rw [h.ec] at hc
  refine hc.mono ?_
  rintro r W' ⟨rfl, P', ha⟩
  exact ⟨_, rfl, P', _, _, h.act ha h1 (h2 h.fs) h3 h4⟩
theorem k_back (h : Kpr w0 W bc bd kb n i P S C av bw A G) (hi : 8 * i ≤ 1048576) :
    Calls Tryz.prog 15 #[.pointer (some ⟨bc, 0, none⟩)] W fun r W' => ∃ z e : Int, r = .returned (.tuple #[.int .i64 z, .int .i64 e]) ∧ ∃ P' S' C', Kpr w0 W' bc bd kb n (i + 1) P' S' C' av bw A G := by
  have hq := h.ql
  obtain ⟨h2, h3, h4⟩ := back_held (S := S) (C := C)
  have hc := back_c h.hc.rc h.fs (by omega)
  rw [h.ec] at hc
  refine hc.mono ?_
  rintro r W' ⟨rfl, P', ha⟩
  exact ⟨_, _, rfl, P', _, _, h.act ha (back_sees h.gd) (h2 h.fs) h3 h4⟩
theorem k_through (h : Kpr w0 W bc bd kb n i P S C av bw A G) (hi : 8 * i ≤ 1048576) {ao : Option Addr} {cap : Nat} {ks : List Int} (hl : ks.length ≤ 1048576) (hr : IRd w0 ao ks) :
    Calls Tryz.prog 14 #[.pointer (some ⟨bc, 0, none⟩), .slice ao ks.length cap] W fun r W' => ∃ e : Int, r = .returned (.int .i64 e) ∧ ∃ P' S' C', Kpr w0 W' bc bd kb n (i + 1) P' S' C' av bw A G := by
  have hq := h.ql
  obtain ⟨h1, h2, h3, h4⟩ := through_sees h.gd ks
  have hrw : IRw W (P.fp C.L) ao ks := fun k x hk => by
    obtain ⟨g, off, e, g1, g2⟩ := hr k x hk
    exact ⟨g, off, e, Nat.lt_of_lt_of_le g1 h.hc.bel.size, fun hm => by have := h.hc.new g hm; omega, cell_later h.hc.bel g2⟩
  have hc := through_c (cap := cap) h.hc.rc h.fs (by omega) rfl hl hrw
  rw [h.ec] at hc
  refine hc.mono ?_
  rintro r W' ⟨rfl, P', ha⟩
  exact ⟨_, rfl, P', _, _, h.act ha h1 (h2 h.fs) h3 h4⟩
theorem faS_n (S : K.Dk) (f : K.Flt) : (K.faS S f).n = S.n := by
  unfold K.faS
  split <;> rfl
theorem k_fault (h : Kpr w0 W bc bd kb n i P S C av bw A G) (f : K.Flt) (fa : K.I64 f.after) (ft : K.I64 f.times) :
    Calls Tryz.prog 16 #[.pointer (some ⟨bd, 0, none⟩), .agg #[.int .i64 f.kind, .int .i64 f.sector, .int .i64 f.after, .int .i64 f.times, .bool f.land]] W fun r W' => ∃ e : Int, r = .returned (.int .i64 e) ∧ ∃ P' S' C', Kpr w0 W' bc bd kb n (i + 1) P' S' C' av bw A G := by
  have hc := K.fault_gen h.hc.rc.rk h.fs f
  rw [h.ed] at hc
  refine hc.mono ?_
  rintro r W' ⟨rfl, fv1, hda⟩
  have hda' : K.DAct W W' 0 P.bd P.ms P.ml P.ms P.ml P.qv P.fv P.qv fv1 (K.faS S f) := by rw [h.ed]; exact hda
  have ha := h.hc.rc.disk (faS_n S f) hda'
  exact ⟨_, rfl, _, _, _, h.act ha (fault_sees h.gd f) (K.faS_ok h.fs fa ft) (by rw [K.faS_q]; omega) (faS_n S f)⟩
theorem k_read (h : Kpr w0 W bc bd kb n i P S C av bw A G) (hi : 8 * i ≤ 1048576) (s : Int) :
    Calls Tryz.prog 12 #[.pointer (some ⟨bc, 0, none⟩), .int .i64 s] W fun r W' => ∃ (va : Option Addr) (vc : Nat) (bl : K.Bl) (e : Int), r = .returned (.tuple #[.slice va bl.length vc, .int .i64 e]) ∧ W'.ownsRow 0 TB8 1 (.slice va bl.length vc) bl.length (bl.map bv) ∧ (e = 0 → bl = G s.toNat ∧ K.inD n s = true) ∧ (K.inD n s = false → e = 31) ∧ ∃ P' S' C', CAct W W' P P' C S' C' ∧ Kpr w0 W' bc bd kb n (i + 1) P' S' C' av bw A G := by
  have hq := h.ql
  have hlim := h.hc.rc.lim
  have hc := read_c h.hc.rc h.fs (by omega) s
  rw [h.ec] at hc
  refine hc.mono ?_
  rintro r W' ⟨b, v, rfl, ho, P', ha⟩
  obtain ⟨h1, h2⟩ := read_sees h.gd s b hlim.1 hlim.2.1
  obtain ⟨h3, h4, h5, _, h7⟩ := read_held h.gd s b hlim.1 hlim.2.1
  obtain ⟨va, vc, hv⟩ : ∃ va vc, v = .slice va (readR S C s b).2.1.length vc := by
    rcases ho.2 with ⟨hv, h0⟩ | ⟨g, cap, cur, hv, _⟩
    · exact ⟨none, 0, by rw [hv, h0]⟩
    · exact ⟨_, _, hv⟩
  subst hv
  refine ⟨va, vc, _, _, rfl, owns_mono ho (Nat.zero_le _), fun e => ?_, fun e => ?_, P', _, _, ha, h.act ha h1 (h3 h.fs) h4 h5⟩
  · obtain ⟨e1, e2⟩ := h2 e
    rw [h.nn] at e2
    obtain ⟨t, rfl, ht⟩ := inD_nat e2
    rw [Int.toNat_natCast] at e1 ⊢
    exact ⟨e1.trans (h.eq t ht).symm, e2⟩
  · exact h7 (by rw [h.nn]; exact e)
/-- the book is asked, and its answer held against a row -/
theorem k_get (h : Kpr w0 W bc bd kb n i P S C av bw A (fun t => getB A t)) (hi : 8 * i ≤ 2097152) {s : Int} (hin : K.inD n s = true) {va : Option Addr} {vc : Nat} {bl : K.Bl} (hbl : bl = getB A s.toNat) (ho : W.ownsRow 0 TB8 1 (.slice va bl.length vc) bl.length (bl.map bv)) :
    Calls Tryz.prog 8 #[.pointer (some ⟨kb, 0, none⟩), .int .i64 s] W fun r W' => ∃ vo c, r = .returned (.slice vo 512 c) ∧ Below W.heap.size W W' ∧ Hid (Calls Tryz.prog 23 #[.slice va bl.length vc, .slice vo 512 c] W' fun r W'' => r = .returned (.bool true) ∧ Below W.heap.size W W'') := by
  obtain ⟨t, rfl, ht⟩ := inD_nat hin
  rw [Int.toNat_natCast] at hbl
  have hok := h.okG ht
  have hal := h.al
  refine (get_c h.bk t (by omega)).mono ?_
  rintro r W' ⟨v, rfl, ho', hb⟩
  obtain ⟨vo, c, rfl, hb2⟩ := K.own_brow ho' hok.len hok.lt (by decide)
  have ho2 := K.ownsRow_block ho (fun g hg => hb.block g (K.row_lt ho g hg).1)
  have hlen : bl.length = 512 := by rw [hbl]; exact hok.len
  obtain ⟨va', vc', e, hb1⟩ := K.own_brow ho2 rfl (by rw [hbl]; exact hok.lt) (by rw [hlen]; decide)
  cases e
  refine ⟨vo, c, rfl, hb, ?_⟩
  have hsm := same_any _ _ _ _ _ _ W' hb1 hb2
  rw [hok.len, decide_eq_true hbl] at hsm
  refine hsm.mono ?_
  rintro r W'' ⟨rfl, q, rfl⟩
  exact ⟨rfl, hb.os, hb.tape, hb.output, hb.size, hb.block⟩
theorem k_write (h : Kpr w0 W bc bd kb n i P S C av bw A G) (hi : 8 * i ≤ 1048576) (s : Int) {bl : K.Bl} {g c m B : Nat} (hm : m = bl.length) (hm1 : m ≤ 1023) (hlt : ∀ x ∈ bl, x < 256) (hB : 0 < m) (ho : W.ownsRow B TB8 1 (.slice (some ⟨g, 0, none⟩) m c) m (bl.map bv)) :
    Calls Tryz.prog 9 #[.pointer (some ⟨bc, 0, none⟩), .int .i64 s, .slice (some ⟨g, 0, none⟩) m c] W fun r W' => ∃ e : Int, r = .returned (.int .i64 e) ∧ ∃ P' S' C', CAct W W' P P' C S' C' ∧ (e ≠ 0 → Kpr w0 W' bc bd kb n (i + 1) P' S' C' av bw A G) ∧ (e = 0 → K.inD n s = true ∧ bl.length = 512 ∧ Kpr w0 W' bc bd kb n (i + 1) P' S' C' av bw A (fun t => if t = s.toNat then bl else G t)) := by
  have hq := h.ql
  have hlim := h.hc.rc.lim
  have hsrc : m = 512 → Src W (P.fp C.L) (some ⟨g, 0, none⟩) bl := fun _ => ⟨g, 0, rfl, h.hc.rc.farB ho g rfl, (K.row_lt ho g rfl).1, fun j v hv => by
    have c1 := ho.cells (g := g) rfl j v hv
    rwa [WideShapes.add_plain] at c1⟩
  have hc := write_c (cap := c) h.hc.rc h.fs (by omega) s hlt hm (by omega) hsrc
  rw [h.ec] at hc
  refine hc.mono ?_
  rintro r W' ⟨b, rfl, P', ha⟩
  obtain ⟨g1, g2, g3⟩ := write_sees h.gd s bl b hlim.1 hlim.2.1
  obtain ⟨h3, h4, h5⟩ := write_held h.gd s bl b hlim.1 hlim.2.1
  refine ⟨_, rfl, P', _, _, ha, fun e => h.acts ha g1 (fun t ht => by rw [g2 e, h.eq t ht]) (h3 h.fs) h4 h5, fun e => ?_⟩
  obtain ⟨k1, k2, k3⟩ := g3 e
  refine ⟨by rw [← h.nn]; exact k1, k2, h.acts ha g1 (fun t ht => ?_) (h3 h.fs) h4 h5⟩
  rw [k3]
  by_cases e1 : t = s.toNat
  · rw [if_pos e1, if_pos e1]
  · rw [if_neg e1, if_neg e1, h.eq t ht]
theorem k_put0 {s : Int} {bl : K.Bl} (h : Kpr w0 W bc bd kb n i P S C av bw A (fun t => if t = s.toNat then bl else getB A t)) (hi : i ≤ 1048576) (hal : A.length + 1 ≤ i) (hin : K.inD n s = true) {vo : Option Addr} {c : Nat} {B : Nat} (hB : w0.heap.size ≤ B) (ho : W.ownsRow B TB8 1 (.slice vo 512 c) 512 (bl.map bv)) :
    Calls Tryz.prog 11 #[.pointer (some ⟨kb, 0, none⟩), .int .i64 s, .slice vo 512 c] W fun r W' => r = .returned (.tuple #[]) ∧ ∃ av' bw' A', Kpr w0 W' bc bd kb n i P S C av' bw' A' (fun t => getB A' t) ∧ K.Kp W W' (bfp0 kb av bw) ∧ ∀ x ∈ bfp kb av' bw' A', x ∈ bfp kb av bw A ∨ W.heap.size ≤ x ∨ (Value.slice vo 512 c).ownBlock = some x := by
  obtain ⟨t, rfl, ht⟩ := inD_nat hin
  refine (put_c h.bk t (owns_mono ho (Nat.zero_le _)) (by omega)).mono ?_
  rintro r W' ⟨rfl, av', bw', A', hb, hg, hl, hk, hsub⟩
  refine ⟨rfl, av', bw', A', h.putB (v := .slice vo 512 c) hb (by omega) (hk.sub (fun i hi => .inl (bfp_sub hi))) hsub (fun x hx => ⟨Nat.le_trans hB (row_base ho hx), h.hc.rc.farB ho x hx⟩) (fun u hu => ?_), hk, hsub⟩
  rw [hg, Int.toNat_natCast]
  by_cases e : u = t
  · rw [if_pos e, if_pos (by omega)]
  · rw [if_neg e, if_neg (by omega)]
theorem k_put {s : Int} {bl : K.Bl} (h : Kpr w0 W bc bd kb n i P S C av bw A (fun t => if t = s.toNat then bl else getB A t)) (hi : i ≤ 1048576) (hal : A.length + 1 ≤ i) (hin : K.inD n s = true) {vo : Option Addr} {c : Nat} {B : Nat} (hB : w0.heap.size ≤ B) (ho : W.ownsRow B TB8 1 (.slice vo 512 c) 512 (bl.map bv)) :
    Calls Tryz.prog 11 #[.pointer (some ⟨kb, 0, none⟩), .int .i64 s, .slice vo 512 c] W fun r W' => r = .returned (.tuple #[]) ∧ ∃ av' bw' A', Kpr w0 W' bc bd kb n i P S C av' bw' A' (fun t => getB A' t) ∧ K.Kp W W' (bfp kb av bw A) := by
  refine (k_put0 h hi hal hin hB ho).mono ?_
  rintro r W' ⟨rfl, av', bw', A', hk, hkp, _⟩
  exact ⟨rfl, av', bw', A', hk, hkp.sub (fun i hi => .inl (bfp_sub hi))⟩
end
end Go.Proofs.YtbamjfnjenmdaaaGreat.C
