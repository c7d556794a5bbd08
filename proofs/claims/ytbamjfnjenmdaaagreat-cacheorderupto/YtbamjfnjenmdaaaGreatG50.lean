import Derived.Test.YtbamjfnjenmdaaaGreatzCOdo
import Derived.BigQuiet
namespace Go.Proofs.YtbamjfnjenmdaaaGreat.C
open Go.RowKit Go.Maps Go.Shelf Go.Proofs.YtbamjfnjenmdaaaGreat
attribute [local go_sem] Oper.semAt_some
set_option linter.unusedVariables false
set_option linter.unusedSimpArgs false
set_option maxRecDepth 100000

/-- what a sector had and was given: the slice, and its entries -/
abbrev Se := Value × List (Value × K.Bl)
structure Sn (B : Nat) (W : World) (bw sv : Value) (SS : List Se) : Prop where
  row : W.ownsRow B TBs 1 sv SS.length (SS.map (·.1))
  inn : ∀ e ∈ SS, W.ownsRow B TBy 1 e.1 e.2.length (e.2.map (·.1))
  dat : ∀ e ∈ SS, ∀ d ∈ e.2, W.ownsRow 0 TB8 1 d.1 512 (d.2.map bv)
  two : SS.Pairwise fun a b => ∀ g, a.1.ownBlock = some g → b.1.ownBlock ≠ some g
  far : ∀ e ∈ SS, ∀ g, e.1.ownBlock = some g → bw.ownBlock ≠ some g
/-- a disk's image that was told -/
structure Img (W : World) (g c n : Nat) (f : Nat → K.Bl) : Prop where
  row : W.ownsRow 0 TB8 1 (.slice (some ⟨g, 0, none⟩) (n * 512) c) (n * 512) ((K.imgL n f).map bv)
  cap : n * 512 ≤ c
  ok : ∀ x, x < n → K.OkB (f x)
theorem Img.later {W W' : World} {g c n : Nat} {f : Nat → K.Bl} (h : Img W g c n f) (hb : Below W.heap.size W W') : Img W' g c n f := ⟨K.ownsRow_block h.row (fun i hi => hb.block i (K.row_lt h.row i hi).1), h.cap, h.ok⟩
theorem Img.brow {W : World} {g c n : Nat} {f : Nat → K.Bl} (h : Img W g c n f) {x : Nat} (hx : x < n) : BRow W (some ⟨g, x * 512, none⟩) (c - x * 512) (f x) := by
  have hok := h.ok x hx
  refine ⟨hok.lt, by rw [hok.len]; decide, (fun e => by cases e), fun _ => ⟨g, x * 512, rfl, fun k hk => ?_⟩⟩
  have hk' : k < 512 := by rw [← hok.len]; exact hk
  have h1 := K.imgL_get (F := f) (n := n) (s := x) (j := k) (fun t ht => (h.ok t ht).len) hx hk'
  rw [List.getElem?_eq_getElem hk] at h1
  have c1 := h.row.cells (g := g) rfl (x * 512 + k) _ (by rw [List.getElem?_map, h1]; rfl)
  rw [WideShapes.add_plain, Nat.zero_add] at c1
  exact c1
theorem Sn.later {B : Nat} {W W' : World} {bw sv : Value} {SS : List Se} (h : Sn B W bw sv SS) (hb : Below W.heap.size W W') : Sn B W' bw sv SS :=
  ⟨K.ownsRow_block h.row (fun i hi => hb.block i (K.row_lt h.row i hi).1), fun e he => K.ownsRow_block (h.inn e he) (fun i hi => hb.block i (K.row_lt (h.inn e he) i hi).1), fun e he d hd => K.ownsRow_block (h.dat e he d hd) (fun i hi => hb.block i (K.row_lt (h.dat e he d hd) i hi).1), h.two, h.far⟩
theorem row_brow {W : World} {v : Value} {bl : K.Bl} (h : W.ownsRow 0 TB8 1 v 512 (bl.map bv)) (hok : K.OkB bl) : ∃ a c, v = .slice a 512 c ∧ BRow W a c bl := K.own_brow h hok.len hok.lt (by decide)
set_option maxHeartbeats 4000000 in
/-- are the safe bytes of every sector those of the book? -/
theorem all_l {w : World} {kb : Nat} {av bw : Value} {A : List Be} (hb : Bk w kb av bw A) (hal : A.length ≤ 1048576) (n : Nat) (hn : n ≤ 65536) (k : Int) (so : Option Addr) (sm sc : Nat) {g c : Nat} {f : Nat → K.Bl} (hi : Img w g c n f) (hf : ∀ x, x < n → f x = getB A x) :
    Calls Tryz.prog 19 #[.agg #[.int .i64 n, .int .i64 k, .slice so sm sc], .slice (some ⟨g, 0, none⟩) (n * 512) c, .pointer (some ⟨kb, 0, none⟩)] w fun r w' => r = .returned (.bool true) ∧ Below w.heap.size w w' := by
  obtain ⟨W0, hW0⟩ : ∃ W0, W0 = w.alloc (.cells #[.int .i64 n, .int .i64 k, .slice so sm sc] TSe) := ⟨_, rfl⟩
  have hB0 : Below w.heap.size w W0 := by rw [hW0]; exact (Below.refl _ w).alloc (Nat.le_refl _) _
  have hbx : W0.heap[w.heap.size]? = some (.cells #[.int .i64 n, .int .i64 k, .slice so sm sc] TSe) := by rw [hW0]; exact heap_alloc_new w _
  have hlt : w.heap.size < W0.heap.size := (Array.getElem?_eq_some_iff.1 hbx).1
  obtain ⟨L, hL⟩ : ∃ L, L = n * 512 := ⟨_, rfl⟩
  have hLc : L ≤ c := by rw [hL]; exact hi.cap
  have HC : Hid (∀ W, Below W0.heap.size W0 W → W.cell? ⟨w.heap.size, 0, none⟩ = some (.int .i64 n) ∧ Below w.heap.size w W ∧ Bk W kb av bw A ∧ Img W g c n f) := fun W hb' => by
    have hbw : Below w.heap.size w W := hB0.trans (hb'.mono hB0.size)
    exact ⟨(K.cell_of ((hb'.block _ hlt).trans hbx)).trans rfl, hbw, hb.later hbw, hi.later hbw⟩
  have HF : Hid (∀ x, x < n → f x = getB A x ∧ K.OkB (f x)) := fun x hx => ⟨hf x hx, hi.ok x hx⟩
  have HL : Hid (L = n * 512) := hL
  have hwr0 : IntKind.i64.wrap ((n : Int) * 512) = (L : Int) := by rw [IntKind.wrap_i64]; omega
  have HB0 : Hid (Below W0.heap.size W0 W0) := Below.refl _ _
  have k0 : W0.cell? ⟨w.heap.size, 0, none⟩ = some (.int .i64 n) := (HC.out W0 HB0.out).1
  rw [← hL]
  clear hb hi hf hB0 hbx hlt hL
  go_enter Tryz.func19, Tryz.ntmps19
  have k0' := k0
  rw [hW0] at k0'
  go_wp2
  rw [← hW0]
  clear hW0 k0 k0'
  go_loopw [7] (fun i wr => ∃ (x : Nat), x ≤ n ∧ i = .int .i64 x ∧ Hid (Below W0.heap.size W0 wr)) (fun i _ => n - (intOf i).toNat)
  case atStart => exact ⟨0, Nat.zero_le _, rfl, HB0⟩
  case round =>
    obtain ⟨x, hx, rfl, HB⟩ := hrel
    obtain ⟨k1, hbw, hbk, him⟩ := HC.out wr HB.out
    by_cases hlt : x < n
    · have hxz : (x : Int) < (n : Int) := by omega
      obtain ⟨a, ha⟩ : ∃ a, a = x * 512 := ⟨_, rfl⟩
      obtain ⟨b, hb⟩ : ∃ b, b = a + 512 := ⟨_, rfl⟩
      have hwr : IntKind.i64.wrap ((x : Int) * 512) = (a : Int) := by rw [IntKind.wrap_i64]; omega
      have hwr2 : IntKind.i64.wrap ((a : Int) + 512) = (b : Int) := by rw [IntKind.wrap_i64]; have := HL.out; omega
      have i1 : (0 : Int) ≤ (a : Int) := by omega
      have i2 : (a : Int) ≤ (b : Int) := by omega
      have i3 : (b : Int) ≤ (L : Int) := by have := HL.out; omega
      have i4 : (b : Int) ≤ (c : Int) := by have := HL.out; omega
      have i5 : ¬ c = a := by have := HL.out; omega
      have i6 : b - a = 512 := by omega
      have hfx := HF.out x hlt
      have HG : Hid (Calls Tryz.prog 8 #[.pointer (some ⟨kb, 0, none⟩), .int .i64 x] wr.drew fun r W' => ∃ vo vc, r = .returned (.slice vo 512 vc) ∧ Hid (Calls Tryz.prog 23 #[.slice (some ⟨g, a, none⟩) 512 (c - a), .slice vo 512 vc] W' fun r W'' => r = .returned (.bool true) ∧ Hid (Below W0.heap.size W0 W''))) := by
        have hbd : Below W0.heap.size W0 wr.drew := HB.out.trans ((w_drew' wr).mono HB.out.size)
        obtain ⟨_, _, hbk', him'⟩ := HC.out _ hbd
        refine (get_c hbk' x hal).mono ?_
        rintro r W' ⟨v, rfl, ho, hb'⟩
        rw [← hfx.1] at ho
        obtain ⟨vo, vc, rfl, hbr⟩ := row_brow ho hfx.2
        refine ⟨vo, vc, rfl, ?_⟩
        have hb1 := (him'.brow hlt).later hb'
        rw [← ha] at hb1
        have hsm := same_any _ _ _ _ _ _ W' hb1 hbr
        rw [hfx.2.len, decide_eq_true rfl] at hsm
        refine hsm.mono ?_
        rintro r W'' ⟨rfl, q, rfl⟩
        have hb2 := hbd.trans (hb'.mono hbd.size)
        exact ⟨rfl, hb2.os, hb2.tape, hb2.output, hb2.size, hb2.block⟩
      clear hbk him hbw hfx ha hb
      go_wp2_with fail
      go_region_held3 (fun _ => True) (first | trivial | go_keep) (first | (go_at_call 8; refine Calls.mono HG.out ?_; rintro r W4 ⟨vo, vc, rfl, HSm⟩) | (go_at_call 23; refine Calls.mono HSm.out ?_; rintro r W5 ⟨rfl, HB5⟩))
      go_wp2
      go_roundw
      case rel => exact ⟨x + 1, by omega, by go_num, HB5⟩
      case measure => simp [intOf]; omega
    · have hxz : ¬ (x : Int) < (n : Int) := by omega
      have HBW : Hid (Below w.heap.size w wr) := hbw
      clear hbk him hbw
      go_wp2
      go_ret
      exact ⟨rfl, HBW.out⟩
end Go.Proofs.YtbamjfnjenmdaaaGreat.C

namespace Go.Proofs.YtbamjfnjenmdaaaGreat.C
open Go.RowKit Go.Maps Go.Shelf Go.Proofs.YtbamjfnjenmdaaaGreat
set_option linter.unusedVariables false
set_option linter.unusedSimpArgs false
set_option maxRecDepth 100000

/-- what a call leaves -/
structure Od (w0 W W' : World) (bc bd kb n i : Nat) (P : Loc) (S : K.Dk) (C : Ch) (P' : Loc) (S' : K.Dk) (C' : Ch) (av bw : Value) (A : List Be) (G : Nat → K.Bl) : Prop where
  act : CAct W W' P P' C S' C'
  kp : Kpr w0 W' bc bd kb n i P' S' C' av bw A G
  nt : Nt C'
  no : C'.notes = C.notes
  od : Ord (fun x => isN C.notes x) S C S'
section
variable {w0 W W' : World} {bc bd kb n i : Nat} {P P' : Loc} {S S' : K.Dk} {C C' : Ch} {av bw : Value} {A : List Be} {G : Nat → K.Bl}
theorem o_flush (h : Kpr w0 W bc bd kb n i P S C av bw A G) (nt : Nt C) (hi : 8 * i ≤ 1048576) :
    Calls Tryz.prog 13 #[.pointer (some ⟨bc, 0, none⟩)] W fun r W' => ∃ e : Int, r = .returned (.int .i64 e) ∧ ∃ P' S' C', Od w0 W W' bc bd kb n (i + 1) P S C P' S' C' av bw A G ∧ (e = 0 → ∀ x, x < n → S'.safe x = G x) := by
  have hq := h.ql
  obtain ⟨h1, h2, h3, h4⟩ := flush_all h.gd
  obtain ⟨ho, hqe⟩ := flush_ord h.gd nt
  have hcl := (flush_ok (S := S) h.gd.nd).2
  have hsub := flush_sub S C
  have hc := flush_c h.hc.rc h.fs (by omega)
  rw [h.ec] at hc
  refine hc.mono ?_
  rintro r W' ⟨rfl, P', ha⟩
  refine ⟨_, rfl, P', _, _, ⟨ha, h.act ha h1 (h2 h.fs) h3 h4, hsub.nt nt, hsub.1, ho⟩, fun e x hx => ?_⟩
  have hq0 := hqe e
  have hcl0 := hcl e
  rw [h.eq x hx, ← h1.eq x]
  unfold seen
  cases hl : lineAt (flushR S C).2.2.L x with
  | none => exact (look_empty hq0 x).symm
  | some l =>
    obtain ⟨hlm, hls⟩ := lineAt_mem hl
    have hsec : l.sec = x := by omega
    simp only
    rw [h1.good.cl l hlm (hcl0 l hlm), hsec, look_empty hq0]
theorem o_back (h : Kpr w0 W bc bd kb n i P S C av bw A G) (nt : Nt C) (hi : 8 * i ≤ 1048576) :
    Calls Tryz.prog 15 #[.pointer (some ⟨bc, 0, none⟩)] W fun r W' => ∃ z e : Int, r = .returned (.tuple #[.int .i64 z, .int .i64 e]) ∧ ∃ P' S' C', Od w0 W W' bc bd kb n (i + 1) P S C P' S' C' av bw A G := by
  have hq := h.ql
  obtain ⟨h2, h3, h4⟩ := back_held (S := S) (C := C)
  have hsub := back_sub S C
  have hc := back_c h.hc.rc h.fs (by omega)
  rw [h.ec] at hc
  refine hc.mono ?_
  rintro r W' ⟨rfl, P', ha⟩
  exact ⟨_, _, rfl, P', _, _, ha, h.act ha (back_sees h.gd) (h2 h.fs) h3 h4, hsub.nt nt, hsub.1, back_ord nt⟩
theorem o_through (h : Kpr w0 W bc bd kb n i P S C av bw A G) (nt : Nt C) (hi : 8 * i ≤ 1048576) {ao : Option Addr} {cap : Nat} {ks : List Int} (hl : ks.length ≤ 1048576) (hr : IRd w0 ao ks) :
    Calls Tryz.prog 14 #[.pointer (some ⟨bc, 0, none⟩), .slice ao ks.length cap] W fun r W' => ∃ e : Int, r = .returned (.int .i64 e) ∧ ∃ P' S' C', Od w0 W W' bc bd kb n (i + 1) P S C P' S' C' av bw A G := by
  have hq := h.ql
  obtain ⟨h1, h2, h3, h4⟩ := through_sees h.gd ks
  have hsub := through_sub S C ks
  have hrw : IRw W (P.fp C.L) ao ks := fun k x hk => by
    obtain ⟨g, off, e, g1, g2⟩ := hr k x hk
    exact ⟨g, off, e, Nat.lt_of_lt_of_le g1 h.hc.bel.size, fun hm => by have := h.hc.new g hm; omega, cell_later h.hc.bel g2⟩
  have hc := through_c (cap := cap) h.hc.rc h.fs (by omega) rfl hl hrw
  rw [h.ec] at hc
  refine hc.mono ?_
  rintro r W' ⟨rfl, P', ha⟩
  exact ⟨_, rfl, P', _, _, ha, h.act ha h1 (h2 h.fs) h3 h4, hsub.nt nt, hsub.1, through_ord h.gd nt ks⟩
theorem fa_q (S : K.Dk) (f : K.Flt) : (K.faS S f).safe = S.safe ∧ (K.faS S f).q = S.q := by
  unfold K.faS
  split <;> exact ⟨rfl, rfl⟩
theorem o_fault (h : Kpr w0 W bc bd kb n i P S C av bw A G) (nt : Nt C) (f : K.Flt) (fa : K.I64 f.after) (ft : K.I64 f.times) :
    Calls Tryz.prog 16 #[.pointer (some ⟨bd, 0, none⟩), .agg #[.int .i64 f.kind, .int .i64 f.sector, .int .i64 f.after, .int .i64 f.times, .bool f.land]] W fun r W' => ∃ e : Int, r = .returned (.int .i64 e) ∧ ∃ P' S' C', Od w0 W W' bc bd kb n (i + 1) P S C P' S' C' av bw A G := by
  have hc := K.fault_gen h.hc.rc.rk h.fs f
  rw [h.ed] at hc
  refine hc.mono ?_
  rintro r W' ⟨rfl, fv1, hda⟩
  have hda' : K.DAct W W' 0 P.bd P.ms P.ml P.ms P.ml P.qv P.fv P.qv fv1 (K.faS S f) := by rw [h.ed]; exact hda
  have ha := h.hc.rc.disk (faS_n S f) hda'
  exact ⟨_, rfl, _, _, _, ha, h.act ha (fault_sees h.gd f) (K.faS_ok h.fs fa ft) (by rw [K.faS_q]; omega) (faS_n S f), nt, rfl, .inl ((QD.refl _ _).same (fa_q S f).1 (fa_q S f).2)⟩
theorem o_read (h : Kpr w0 W bc bd kb n i P S C av bw A G) (nt : Nt C) (hi : 8 * i ≤ 1048576) (s : Int) :
    Calls Tryz.prog 12 #[.pointer (some ⟨bc, 0, none⟩), .int .i64 s] W fun r W' => ∃ (v : Value) (e : Int), r = .returned (.tuple #[v, .int .i64 e]) ∧ ∃ P' S' C', Od w0 W W' bc bd kb n (i + 1) P S C P' S' C' av bw A G := by
  have hq := h.ql
  have hlim := h.hc.rc.lim
  have hc := read_c h.hc.rc h.fs (by omega) s
  rw [h.ec] at hc
  refine hc.mono ?_
  rintro r W' ⟨b, v, rfl, ho, P', ha⟩
  obtain ⟨h1, h2⟩ := read_sees h.gd s b hlim.1 hlim.2.1
  obtain ⟨h3, h4, h5, _, h7⟩ := read_held h.gd s b hlim.1 hlim.2.1
  obtain ⟨h8, h9⟩ := read_nt (S := S) nt s b
  exact ⟨v, _, rfl, P', _, _, ha, h.act ha h1 (h3 h.fs) h4 h5, h8, h9, read_ord h.gd nt s b⟩
theorem o_write (h : Kpr w0 W bc bd kb n i P S C av bw A G) (nt : Nt C) (hi : 8 * i ≤ 1048576) (s : Int) {bl : K.Bl} {g c B : Nat} (h512 : bl.length = 512) (hlt : ∀ x ∈ bl, x < 256) (ho : W.ownsRow B TB8 1 (.slice (some ⟨g, 0, none⟩) 512 c) 512 (bl.map bv)) :
    Calls Tryz.prog 9 #[.pointer (some ⟨bc, 0, none⟩), .int .i64 s, .slice (some ⟨g, 0, none⟩) 512 c] W fun r W' => ∃ e : Int, r = .returned (.int .i64 e) ∧ ∃ P' S' C', (e ≠ 0 → Od w0 W W' bc bd kb n (i + 1) P S C P' S' C' av bw A G) ∧ (e = 0 → K.inD n s = true ∧ Od w0 W W' bc bd kb n (i + 1) P S C P' S' C' av bw A (fun t => if t = s.toNat then bl else G t)) ∧ CAct W W' P P' C S' C' := by
  have hq := h.ql
  have hlim := h.hc.rc.lim
  have hsrc : 512 = 512 → Src W (P.fp C.L) (some ⟨g, 0, none⟩) bl := fun _ => ⟨g, 0, rfl, h.hc.rc.farB ho g rfl, (K.row_lt ho g rfl).1, fun j v hv => by
    have c1 := ho.cells (g := g) rfl j v hv
    rwa [WideShapes.add_plain] at c1⟩
  have hc := write_c (cap := c) h.hc.rc h.fs (by omega) s hlt h512.symm (by omega) hsrc
  rw [h.ec] at hc
  refine hc.mono ?_
  rintro r W' ⟨b, rfl, P', ha⟩
  obtain ⟨g1, g2, g3⟩ := write_sees h.gd s bl b hlim.1 hlim.2.1
  obtain ⟨h3, h4, h5⟩ := write_held h.gd s bl b hlim.1 hlim.2.1
  obtain ⟨h8, h9⟩ := write_nt (S := S) nt s bl b
  have ho' := write_ord h.gd nt s bl b
  refine ⟨_, rfl, P', _, _, fun e => ⟨ha, h.acts ha g1 (fun t ht => by rw [g2 e, h.eq t ht]) (h3 h.fs) h4 h5, h8, h9, ho'⟩, fun e => ?_, ha⟩
  obtain ⟨k1, k2, k3⟩ := g3 e
  refine ⟨by rw [← h.nn]; exact k1, ha, h.acts ha g1 (fun t ht => ?_) (h3 h.fs) h4 h5, h8, h9, ho'⟩
  rw [k3]
  by_cases e1 : t = s.toNat
  · rw [if_pos e1, if_pos e1]
  · rw [if_neg e1, if_neg e1, h.eq t ht]
end
end Go.Proofs.YtbamjfnjenmdaaaGreat.C
