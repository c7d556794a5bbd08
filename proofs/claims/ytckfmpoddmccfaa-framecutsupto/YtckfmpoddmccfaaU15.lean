import Derived.Test.YtckfmpoddmccfaaU11
import Derived.Deep.RegionLaw
import Derived.Test.YtckfmpoddmccfaaU12
namespace Go.Proofs.Ytckfmpoddmccfaa
open Go.RowKit
set_option linter.unusedVariables false
set_option linter.unusedSimpArgs false
set_option maxRecDepth 100000
abbrev TRi : TypeId := 32
/-- the document's inbox -/
structure RIn (w : World) (B b : Nat) (v : Value) (rm ov : Nat) (l : List Nat) : Prop where
  blk : w.heap[b]? = some (.cells #[.int .i64 (rm : Int), v, .int .u64 (ov : Int)] TRi (0, 0))
  row : HRow w B v l
  hb : B ≤ b
  r1 : 1 ≤ rm
  r2 : rm ≤ 2097152
  le : l.length ≤ rm
  ov4 : ov < 4294967296
theorem RIn.c {w : World} {B b : Nat} {v : Value} {rm ov : Nat} {l : List Nat} (h : RIn w B b v rm ov l) (j : Nat) : w.cell? ⟨b, j, none⟩ = (#[.int .i64 (rm : Int), v, .int .u64 (ov : Int)] : Array Value)[j]? := blk_at h.blk j
theorem RIn.f {w : World} {B b : Nat} {v : Value} {rm ov : Nat} {l : List Nat} (h : RIn w B b v rm ov l) (j : Nat) : w.frozen? ⟨b, j, none⟩ = false := blk_free h.blk j
theorem RIn.ne {w : World} {B b : Nat} {v : Value} {rm ov : Nat} {l : List Nat} (h : RIn w B b v rm ov l) (g : Nat) (hg : v.ownBlock = some g) : g ≠ b := by
  rintro rfl
  obtain ⟨_, _, cur, hc⟩ := h.row.lo g hg
  have := h.blk.symm.trans hc
  simp at this
  exact absurd this.2 (by decide)
theorem RIn.keep {w w' : World} {B b : Nat} {v : Value} {rm ov : Nat} {l : List Nat} (h : RIn w B b v rm ov l) {S : Nat → Prop} (k : KeptIn S w w') (hd : ∀ g, ifp b v g → ¬ S g) : RIn w' B b v rm ov l :=
  ⟨(k.block b (block_lt h.blk) (hd b (.inl rfl))).trans h.blk, h.row.same fun g hg => k.block g (h.row.lo g hg).2.1 (hd g (.inr hg)), h.hb, h.r1, h.r2, h.le, h.ov4⟩
theorem RIn.later {w w' : World} {B b : Nat} {v : Value} {rm ov : Nat} {l : List Nat} (h : RIn w B b v rm ov l) (hb : Below w.heap.size w w') : RIn w' B b v rm ov l :=
  h.keep (S := fun _ => False) (KeptIn.ofBelow hb) (fun _ _ h => h)
theorem RIn.drewN {w : World} {B b : Nat} {v : Value} {rm ov : Nat} {l : List Nat} (h : RIn w B b v rm ov l) (q : Nat) : RIn (w.drewN q) B b v rm ov l := h.later ⟨rfl, rfl, rfl, Nat.le_refl _, fun _ _ => rfl⟩
theorem RIn.lt {w : World} {B b : Nat} {v : Value} {rm ov : Nat} {l : List Nat} (h : RIn w B b v rm ov l) (g : Nat) (hg : ifp b v g) : B ≤ g ∧ g < w.heap.size := by
  rcases hg with rfl | hg
  · exact ⟨h.hb, block_lt h.blk⟩
  · exact ⟨(h.row.lo g hg).1, (h.row.lo g hg).2.1⟩
/-- a store into its third cell -/
theorem RIn.putO {w : World} {B b : Nat} {v : Value} {rm ov : Nat} {l : List Nat} (h : RIn w B b v rm ov l) (o : Nat) (ho : o < 4294967296) :
    RIn (w.setCell ⟨b, 2, none⟩ (.int .u64 (o : Int))) B b v rm o l ∧ KeptIn (fun g => g = b) w (w.setCell ⟨b, 2, none⟩ (.int .u64 (o : Int))) := by
  have hk : KeptIn (fun g => g = b) w (w.setCell ⟨b, 2, none⟩ (.int .u64 (o : Int))) := ⟨rfl, rfl, rfl, by simp [World.setCell], fun g hg hn => Below.heap_setCell _ _ _ _ (fun e => hn e)⟩
  refine ⟨⟨?_, h.row.same fun g hg => Below.heap_setCell _ _ _ _ (h.ne g hg), h.hb, h.r1, h.r2, h.le, ho⟩, hk⟩
  have := heap_setCell_same w b 2 _ TRi (.int .u64 (o : Int)) h.blk
  rw [this]; rfl
/-- other bytes are held -/
theorem RIn.putV {w w1 : World} {B b : Nat} {v v' : Value} {rm ov : Nat} {l l' : List Nat} (h : RIn w B b v rm ov l) (hg : w.grownBy w1 v.ownBlock) (hr : HRow w1 B v' l') (hf : Fresh w v v') (hle : l'.length ≤ rm) :
    (w1.cell? ⟨b, 1, none⟩ = some v ∧ w1.frozen? ⟨b, 1, none⟩ = false) ∧ RIn (w1.setCell ⟨b, 1, none⟩ v') B b v' rm ov l' ∧ IAct w (w1.setCell ⟨b, 1, none⟩ v') b v v' := by
  have hb1 : w1.heap[b]? = some (.cells #[.int .i64 (rm : Int), v, .int .u64 (ov : Int)] TRi (0, 0)) := (hg.block b (block_lt h.blk) (fun e => h.ne b e.symm rfl)).trans h.blk
  have hne : ∀ g, v'.ownBlock = some g → g ≠ b := fun g hg' e => by
    subst e
    obtain ⟨_, _, cur, hc⟩ := hr.lo g hg'
    have := hb1.symm.trans hc
    simp at this
    exact absurd this.2 (by decide)
  refine ⟨⟨by rw [blk_at hb1]; rfl, blk_free hb1 1⟩, ⟨?_, hr.same fun g hg' => Below.heap_setCell _ _ _ _ (hne g hg'), h.hb, h.r1, h.r2, hle, h.ov4⟩, ⟨hg.os, hg.tape, hg.output, ?_, fun g hg' hn => ?_⟩, hf⟩
  · have := heap_setCell_same w1 b 1 _ TRi v' hb1
    rw [this]; rfl
  · have := hg.size; simpa [World.setCell] using this
  · rw [Below.heap_setCell _ _ _ _ (fun e => hn (.inl e))]
    exact hg.block g hg' (fun e => hn (.inr e.symm))
/-- bytes elsewhere stay -/
theorem CRow.pastR {w w' : World} {B b : Nat} {v : Value} {rm ov : Nat} {l : List Nat} {ao : Option Addr} {cap : Nat} {m : List Nat} (hm : CRow w ao cap m) (h : RIn w B b v rm ov l) (k : KeptIn (fun g => g = b) w w') : CRow w' ao cap m := by
  refine ⟨⟨hm.row.lt, hm.row.len, hm.row.nil, fun hne => ?_⟩, hm.cap1, hm.cap2⟩
  obtain ⟨g, off, e, hc⟩ := hm.row.at_ hne
  refine ⟨g, off, e, fun j hj => ?_⟩
  have hx := hc j hj
  have hgb : g ≠ b := by
    rintro rfl
    rw [h.c] at hx
    obtain ⟨ao', cap', rfl, _⟩ := h.row.crow
    generalize off + j = i at hx
    match i, hx with
    | 0, hx => simp [bv] at hx
    | 1, hx => simp [bv] at hx
    | 2, hx => simp [bv] at hx
    | i + 3, hx => simp at hx
  have hlt : g < w.heap.size := World.block_lt_of_cell? w _ hx
  rw [← hx]
  exact World.cell?_of_block (k.block g hlt hgb)
theorem IAct.belowR {w w' : World} {B b : Nat} {v v' : Value} {rm ov : Nat} {l : List Nat} (h : IAct w w' b v v') (hi : RIn w B b v rm ov l) : Below B w w' :=
  h.kept.below (Nat.le_trans hi.hb (Nat.le_of_lt (block_lt hi.blk))) (fun g hg hf => by have := (hi.lt g hf).1; omega)
set_option maxHeartbeats 400000 in
theorem rnewI (r : Nat) (h1 : 1 ≤ r) (h2 : r ≤ 2097152) (w : World) :
    Calls Try.prog 26 #[.int .i64 (r : Int)] w fun e w' => e = .returned (.tuple #[.pointer (some ⟨w.heap.size, 0, none⟩), .int .i64 0]) ∧ RIn w' w.heap.size w.heap.size (.slice none 0 0) r 0 [] ∧ Below w.heap.size w w' := by
  have t1 : decide ((r : Int) < 1) = false := by simp; omega
  have t2 : decide ((2097152 : Int) < (r : Int)) = false := by simp; omega
  have t3 : ¬ ((2097152 : Int) < (r : Int)) := by omega
  have t4 : ¬ ((r : Int) < 1) := by omega
  have HP : Hid (RIn (w.alloc (.cells #[.int .i64 (r : Int), .slice none 0 0, .int .u64 0] TRi)) w.heap.size w.heap.size (.slice none 0 0) r 0 [] ∧ Below w.heap.size w (w.alloc (.cells #[.int .i64 (r : Int), .slice none 0 0, .int .u64 0] TRi))) :=
    ⟨⟨heap_new w _, ⟨by simp, by simp, .inl (World.ownsRow_nil _ _ _ _)⟩, Nat.le_refl _, h1, h2, by simp, by decide⟩, (Below.refl _ _).alloc (Nat.le_refl _) _⟩
  go_enter Try.func26, Try.ntmps26
  go_wp2
  go_ret2
  exact ⟨rfl, HP.out.1, HP.out.2⟩
set_option maxHeartbeats 400000 in
theorem rnewI_bad (r : Int) (h : r < 1 ∨ 2097152 < r) (w : World) :
    Calls Try.prog 26 #[.int .i64 r] w fun e w' => e = .returned (.tuple #[.pointer none, .int .i64 90]) ∧ w' = w := by
  by_cases t1 : r < 1
  · go_enter Try.func26, Try.ntmps26
    go_wp2
    go_ret2
    exact ⟨rfl, rfl⟩
  · have t2 : 2097152 < r := by omega
    have t3 : decide (2097152 < r) = true := by simp; omega
    go_enter Try.func26, Try.ntmps26
    go_wp2
    go_ret2
    exact ⟨rfl, rfl⟩
set_option maxHeartbeats 4000000 in
theorem rfeedI {w : World} {B b : Nat} {v : Value} {rm ov : Nat} {l : List Nat} (h : RIn w B b v rm ov l) (ao : Option Addr) (cap n : Nat) (m : List Nat) (hm : CRow w ao cap m) (HN : Hid (m.length = n)) (hn : n ≤ 1099511627776) (p k : Nat) (hp : min n ov = p) (hk : min (n - p) (rm - l.length) = k) :
    Calls Try.prog 29 #[.pointer (some ⟨b, 0, none⟩), .slice ao n cap] w fun e w' => e = .returned (.int .i64 ((p + k : Nat) : Int)) ∧ ∃ v', RIn w' B b v' rm (ov - p) (l ++ (m.drop p).take k) ∧ IAct w w' b v v' := by
  obtain ⟨i0, hi, hz0, hz1, hz2⟩ := info_parts Try.info5
  have HC : Hid (CRow w ao cap m) := hm
  have HI0 : Hid (RIn w B b v rm ov l) := h
  have hB : B ≤ w.heap.size := Nat.le_trans h.hb (Nat.le_of_lt (block_lt h.blk))
  have hr2 := h.r2
  have hle := h.le
  have hov := h.ov4
  obtain ⟨vo, vc, rfl, hvc⟩ := h.row.crow
  have k0 := h.c 0
  have k1 := h.c 1
  have k2 := h.c 2
  have f2 := h.f 2
  simp at k0 k1 k2
  clear h hm hvc
  obtain ⟨R, hR⟩ : ∃ R, rm - l.length = R := ⟨_, rfl⟩
  obtain ⟨N1, hN1⟩ : ∃ N1, n - p = N1 := ⟨_, rfl⟩
  obtain ⟨T, hT⟩ : ∃ T, p + k = T := ⟨_, rfl⟩
  obtain ⟨O, hO⟩ : ∃ O, ov - p = O := ⟨_, rfl⟩
  have q1 : IntKind.i64.wrap ((n : Int) - (p : Int)) = (N1 : Int) := by rw [IntKind.wrap_i64]; omega
  have u1 : IntKind.u64.wrap (n : Int) = (n : Int) := by rw [IntKind.wrap_u64]; omega
  have u2 : IntKind.i64.wrap (ov : Int) = (ov : Int) := by rw [IntKind.wrap_i64]; omega
  have u3 : IntKind.u64.wrap (p : Int) = (p : Int) := by rw [IntKind.wrap_u64]; omega
  have u4 : IntKind.u64.wrap ((ov : Int) - (p : Int)) = (O : Int) := by rw [IntKind.wrap_u64]; omega
  have u5 : IntKind.i64.wrap ((rm : Int) - (l.length : Int)) = (R : Int) := by rw [IntKind.wrap_i64]; omega
  have hPo := HI0.out.putO O (by omega)
  have HI1 : Hid _ := hPo.1
  have HA1 : Hid (IAct w (w.setCell ⟨b, 2, none⟩ (.int .u64 (O : Int))) b (.slice vo l.length vc) (.slice vo l.length vc)) := IAct.ofKept hPo.2
  have HC1 : Hid (CRow (w.setCell ⟨b, 2, none⟩ (.int .u64 (O : Int))) ao cap m) := HC.out.pastR HI0.out hPo.2
  have MIDP : Hid (∀ q, RIn ((w.setCell ⟨b, 2, none⟩ (.int .u64 (O : Int))).drewN q) B b (.slice vo l.length vc) rm O l) := fun q => HI1.out.drewN q
  clear hPo
  go_enter Try.func29, Try.ntmps29
  have hcap1 := HC.out.cap1
  have hcap2 := HC.out.cap2
  have hnil := HC.out.row.nil
  rw [HN.out] at hcap1
  have hp2 : (ov < n ∧ p = ov) ∨ (¬ ov < n ∧ p = n) := by omega
  clear HC MIDP HI0
  have MAIN : ∀ (W1 : World), W1 = w.setCell ⟨b, 2, none⟩ (.int .u64 (O : Int)) → Hid (RIn W1 B b (.slice vo l.length vc) rm O l) := fun W1 h => by rw [h]; exact HI1.out
  clear MAIN
  rcases hp2 with ⟨hpn, hpe⟩ | ⟨hpn, hpe⟩
  · subst hpe
    obtain rfl : O = 0 := by omega
    go_wp2
    have c0 := HI1.out.c 0
    have c1 := HI1.out.c 1
    have f1 := HI1.out.f 1
    simp at c0 c1
    generalize w.setCell ⟨b, 2, none⟩ (.int .u64 0) = W1 at *
    clear c0 c1 f1
    have c0 := HI1.out.c 0
    have c1 := HI1.out.c 1
    simp at c0 c1
    go_quiet (fail)
    have HI2 : Hid _ := HI1.out.drewN nq
    have HA2 : Hid (IAct w (W1.drewN nq) b (.slice vo l.length vc) (.slice vo l.length vc)) := HA1.out.trans (IAct.drewN nq)
    have HC2 : Hid (CRow (W1.drewN nq) ao cap m) := HC1.out.later ⟨rfl, rfl, rfl, Nat.le_refl _, fun _ _ => rfl⟩
    generalize W1.drewN nq = wa at *
    have c0 := HI2.out.c 0
    have c1 := HI2.out.c 1
    have f1 := HI2.out.f 1
    simp at c0 c1
    have hk2 : (R = k ∧ R < N1) ∨ (N1 = k ∧ ¬ R < N1) := by omega
    rcases hk2 with ⟨hRk, hlt⟩ | ⟨hRk, hlt⟩
    · subst hRk
      have hlt2 : (R : Int) < (N1 : Int) := by omega
      go_wp2
      go_quiet (fail)
      have HI2 : Hid _ := HI2.out.drewN nq
      have HA2 : Hid (IAct w (wa.drewN nq) b (.slice vo l.length vc) (.slice vo l.length vc)) := HA2.out.trans (IAct.drewN nq)
      have HC2 : Hid (CRow (wa.drewN nq) ao cap m) := HC2.out.later ⟨rfl, rfl, rfl, Nat.le_refl _, fun _ _ => rfl⟩
      generalize wa.drewN nq = w2 at *
      have c0 := HI2.out.c 0
      have c1 := HI2.out.c 1
      have f1 := HI2.out.f 1
      simp at c0 c1
      have hB2 : B ≤ w2.heap.size := Nat.le_trans HI2.out.hb (Nat.le_of_lt (block_lt HI2.out.blk))
      have hD : Below w2.heap.size w2 w2.drew := ⟨rfl, rfl, rfl, Nat.le_refl _, fun _ _ => rfl⟩
      have q2 : IntKind.i64.wrap ((p : Int) + (R : Int)) = (T : Int) := by rw [IntKind.wrap_i64]; omega
      have q3 : (p : Int) ≤ (T : Int) := by omega
      have q4 : (T : Int) ≤ (cap : Int) := by omega
      have q5 : T - p = R := by omega
      have q6 : (T : Int) - (p : Int) = (R : Int) := by omega
      have HLn : Hid (((m.drop p).take R).length = R) := by show _ = _; have := HN.out; rw [List.length_take, List.length_drop]; omega
      obtain ⟨ab, aof, rfl⟩ : ∃ ab aof, ao = some ⟨ab, aof, none⟩ := by
        obtain ⟨x, y, e, _⟩ := HC2.out.row.at_ (by intro e; have := HN.out; rw [e] at this; simp at this; omega)
        exact ⟨x, y, e⟩
      have hB0 := HC2.out.part p R (by rw [HN.out]; omega) _ rfl
      clear HC2
      have hcp : ¬ p = cap := by omega
      rw [if_neg (fun e => hcp e.symm)] at hB0
      have HB : Hid _ := hB0
      have hca : ((cap - p : Nat) : Int) = (cap : Int) - (p : Int) := by omega
      have hcn : ¬ (cap - p = 0) := by omega
      have hcn3 : ¬ (cap = p) := fun e => hcp e.symm
      have hcn2 : ¬ ((cap : Int) - (p : Int) = 0) := by omega
      clear hB0
      have HX : Hid (HRow w2.drew B (.slice vo l.length vc) l ∧ BRow w2.drew (some ⟨ab, aof + p, none⟩) (cap - p) ((m.drop p).take R) ∧ B ≤ w2.drew.heap.size) := ⟨HI2.out.row.later hD, HB.out.later hD, hB2⟩
      have HF : Hid (∀ (W' : World) ao' c', HRow W' B (.slice ao' (l.length + R) c') (l ++ ((m.drop p).take R)) → w2.drew.grownBy W' (Value.slice vo l.length vc).ownBlock → Fresh w2.drew (.slice vo l.length vc) (.slice ao' (l.length + R) c') → (W'.cell? ⟨b, 1, none⟩ = some (.slice vo l.length vc) ∧ W'.frozen? ⟨b, 1, none⟩ = false) ∧ RIn (W'.setCell ⟨b, 1, none⟩ (.slice ao' (l.length + R) c')) B b (.slice ao' (l.length + R) c') rm 0 (l ++ ((m.drop p).take R)) ∧ IAct w (W'.setCell ⟨b, 1, none⟩ (.slice ao' (l.length + R) c')) b (.slice vo l.length vc) (.slice ao' (l.length + R) c')) := fun W' ao' c' hr hg hf => by
        have hi := HI2.out.later hD
        have := hi.putV hg hr hf (by rw [List.length_append, HLn.out]; omega)
        exact ⟨this.1, this.2.1, HA2.out.trans ((IAct.ofBelow hD).trans this.2.2)⟩
      clear HI2 HA2
      go_wp2
      go_region_law (refine step_append_held rfl (.tmp 61) (.tmp 67) 22 rfl B i0 (.int .u8 0) Try.underlying22 hi hz0 hz1 hz2 rfl (.slice vo l.length vc) l (by simp [Act.eval, Act.put]) HX.out.1 (some ⟨ab, aof + p, none⟩) R (cap - p) ((m.drop p).take R) (by simp [Act.eval, Act.put]; try omega) HX.out.2.1 HLn.out (by omega) HX.out.2.2 ?_; intro ao' c' w3 hr3 hg3 hf3; obtain ⟨⟨c3, f3⟩, hp3⟩ := HF.out w3 ao' c' hr3 hg3 hf3; have HP3 : Hid _ := hp3; clear hp3 hr3 hg3 hf3)
      all_goals
        go_wp2
        go_ret
        rw [hO]
        exact ⟨ret_i64 (by omega), _, HP3.out.1, HP3.out.2⟩
    · subst hRk
      have hlt2 : ¬ ((R : Int) < (N1 : Int)) := by omega
      have hlt3 : decide ((R : Int) < (N1 : Int)) = false := by simp; omega
      generalize wa = w2 at *
      have hB2 : B ≤ w2.heap.size := Nat.le_trans HI2.out.hb (Nat.le_of_lt (block_lt HI2.out.blk))
      have hD : Below w2.heap.size w2 w2.drew := ⟨rfl, rfl, rfl, Nat.le_refl _, fun _ _ => rfl⟩
      have q2 : IntKind.i64.wrap ((p : Int) + (N1 : Int)) = (T : Int) := by rw [IntKind.wrap_i64]; omega
      have q3 : (p : Int) ≤ (T : Int) := by omega
      have q4 : (T : Int) ≤ (cap : Int) := by omega
      have q5 : T - p = N1 := by omega
      have q6 : (T : Int) - (p : Int) = (N1 : Int) := by omega
      have HLn : Hid (((m.drop p).take N1).length = N1) := by show _ = _; have := HN.out; rw [List.length_take, List.length_drop]; omega
      obtain ⟨ab, aof, rfl⟩ : ∃ ab aof, ao = some ⟨ab, aof, none⟩ := by
        obtain ⟨x, y, e, _⟩ := HC2.out.row.at_ (by intro e; have := HN.out; rw [e] at this; simp at this; omega)
        exact ⟨x, y, e⟩
      have hB0 := HC2.out.part p N1 (by rw [HN.out]; omega) _ rfl
      clear HC2
      have hcp : ¬ p = cap := by omega
      rw [if_neg (fun e => hcp e.symm)] at hB0
      have HB : Hid _ := hB0
      have hca : ((cap - p : Nat) : Int) = (cap : Int) - (p : Int) := by omega
      have hcn : ¬ (cap - p = 0) := by omega
      have hcn3 : ¬ (cap = p) := fun e => hcp e.symm
      have hcn2 : ¬ ((cap : Int) - (p : Int) = 0) := by omega
      clear hB0
      have HX : Hid (HRow w2.drew B (.slice vo l.length vc) l ∧ BRow w2.drew (some ⟨ab, aof + p, none⟩) (cap - p) ((m.drop p).take N1) ∧ B ≤ w2.drew.heap.size) := ⟨HI2.out.row.later hD, HB.out.later hD, hB2⟩
      have HF : Hid (∀ (W' : World) ao' c', HRow W' B (.slice ao' (l.length + N1) c') (l ++ ((m.drop p).take N1)) → w2.drew.grownBy W' (Value.slice vo l.length vc).ownBlock → Fresh w2.drew (.slice vo l.length vc) (.slice ao' (l.length + N1) c') → (W'.cell? ⟨b, 1, none⟩ = some (.slice vo l.length vc) ∧ W'.frozen? ⟨b, 1, none⟩ = false) ∧ RIn (W'.setCell ⟨b, 1, none⟩ (.slice ao' (l.length + N1) c')) B b (.slice ao' (l.length + N1) c') rm 0 (l ++ ((m.drop p).take N1)) ∧ IAct w (W'.setCell ⟨b, 1, none⟩ (.slice ao' (l.length + N1) c')) b (.slice vo l.length vc) (.slice ao' (l.length + N1) c')) := fun W' ao' c' hr hg hf => by
        have hi := HI2.out.later hD
        have := hi.putV hg hr hf (by rw [List.length_append, HLn.out]; omega)
        exact ⟨this.1, this.2.1, HA2.out.trans ((IAct.ofBelow hD).trans this.2.2)⟩
      clear HI2 HA2
      go_wp2
      go_region_law (refine step_append_held rfl (.tmp 61) (.tmp 67) 22 rfl B i0 (.int .u8 0) Try.underlying22 hi hz0 hz1 hz2 rfl (.slice vo l.length vc) l (by simp [Act.eval, Act.put]) HX.out.1 (some ⟨ab, aof + p, none⟩) N1 (cap - p) ((m.drop p).take N1) (by simp [Act.eval, Act.put]; try omega) HX.out.2.1 HLn.out (by omega) HX.out.2.2 ?_; intro ao' c' w3 hr3 hg3 hf3; obtain ⟨⟨c3, f3⟩, hp3⟩ := HF.out w3 ao' c' hr3 hg3 hf3; have HP3 : Hid _ := hp3; clear hp3 hr3 hg3 hf3)
      all_goals
        go_wp2
        go_ret
        rw [hO]
        exact ⟨ret_i64 (by omega), _, HP3.out.1, HP3.out.2⟩
  · subst hpe
    obtain rfl : N1 = 0 := by omega
    obtain rfl : k = 0 := by omega
    obtain rfl : p = T := by omega
    go_wp2
    have c0 := HI1.out.c 0
    have c1 := HI1.out.c 1
    have f1 := HI1.out.f 1
    simp at c0 c1
    generalize w.setCell ⟨b, 2, none⟩ (.int .u64 (O : Int)) = W1 at *
    clear c0 c1 f1
    have c0 := HI1.out.c 0
    have c1 := HI1.out.c 1
    simp at c0 c1
    go_quiet (fail)
    have HI2 : Hid _ := HI1.out.drewN nq
    have HA2 : Hid (IAct w (W1.drewN nq) b (.slice vo l.length vc) (.slice vo l.length vc)) := HA1.out.trans (IAct.drewN nq)
    have HC2 : Hid (CRow (W1.drewN nq) ao cap m) := HC1.out.later ⟨rfl, rfl, rfl, Nat.le_refl _, fun _ _ => rfl⟩
    generalize W1.drewN nq = w2 at *
    have c0 := HI2.out.c 0
    have c1 := HI2.out.c 1
    have f1 := HI2.out.f 1
    simp at c0 c1
    have hB2 : B ≤ w2.heap.size := Nat.le_trans HI2.out.hb (Nat.le_of_lt (block_lt HI2.out.blk))
    have hD : Below w2.heap.size w2 w2.drew := ⟨rfl, rfl, rfl, Nat.le_refl _, fun _ _ => rfl⟩
    have hlt2 : ¬ ((R : Int) < 0) := by omega
    have hlt3 : decide ((R : Int) < 0) = false := by simp
    have u6 : IntKind.i64.wrap (p : Int) = (p : Int) := by rw [IntKind.wrap_i64]; omega
    have q4 : (p : Int) ≤ (cap : Int) := by omega
    clear HC2
    cases ao with
    | none =>
      obtain ⟨_, rfl⟩ := hnil rfl
      have hp0 : p = 0 := by omega
      subst hp0
      have u7 : IntKind.i64.wrap 0 = 0 := by decide
      have HX : Hid (HRow w2.drew B (.slice vo l.length vc) l ∧ (∀ ao c, (ao = none → c = 0) → BRow w2.drew ao c []) ∧ B ≤ w2.drew.heap.size) := ⟨HI2.out.row.later hD, (fun ao c h => ⟨by simp, by simp, fun e => ⟨rfl, h e⟩, fun h => absurd rfl h⟩), hB2⟩
      have HF : Hid (∀ (W' : World) ao' c', HRow W' B (.slice ao' (l.length + 0) c') (l ++ []) → w2.drew.grownBy W' (Value.slice vo l.length vc).ownBlock → Fresh w2.drew (.slice vo l.length vc) (.slice ao' (l.length + 0) c') → (W'.cell? ⟨b, 1, none⟩ = some (.slice vo l.length vc) ∧ W'.frozen? ⟨b, 1, none⟩ = false) ∧ RIn (W'.setCell ⟨b, 1, none⟩ (.slice ao' (l.length + 0) c')) B b (.slice ao' (l.length + 0) c') rm O (l ++ []) ∧ IAct w (W'.setCell ⟨b, 1, none⟩ (.slice ao' (l.length + 0) c')) b (.slice vo l.length vc) (.slice ao' (l.length + 0) c')) := fun W' ao' c' hr hg hf => by
        have hi := HI2.out.later hD
        have := hi.putV hg hr hf (by simp; omega)
        exact ⟨this.1, this.2.1, HA2.out.trans ((IAct.ofBelow hD).trans this.2.2)⟩
      clear HI2 HA2
      go_wp2
      go_region_law (refine step_append_held rfl (.tmp 61) (.tmp 67) 22 rfl B i0 (.int .u8 0) Try.underlying22 hi hz0 hz1 hz2 rfl (.slice vo l.length vc) l (by simp [Act.eval, Act.put]) HX.out.1 none 0 0 [] (by simp [Act.eval, Act.put]) (HX.out.2.1 _ _ (by simp)) rfl (by omega) HX.out.2.2 ?_; intro ao' c' w3 hr3 hg3 hf3; obtain ⟨⟨c3, f3⟩, hp3⟩ := HF.out w3 ao' c' hr3 hg3 hf3; have HP3 : Hid _ := hp3; clear hp3 hr3 hg3 hf3)
      all_goals
        go_wp2
        go_ret
        rw [hO]
        have hp3 := HP3.out
        simp only [List.append_nil, Nat.add_zero] at hp3
        simp
        exact ⟨_, hp3.1, hp3.2⟩
    | some a =>
      by_cases hcp : p = cap
      · subst hcp
        have HX : Hid (HRow w2.drew B (.slice vo l.length vc) l ∧ (∀ ao c, (ao = none → c = 0) → BRow w2.drew ao c []) ∧ B ≤ w2.drew.heap.size) := ⟨HI2.out.row.later hD, (fun ao c h => ⟨by simp, by simp, fun e => ⟨rfl, h e⟩, fun h => absurd rfl h⟩), hB2⟩
        have HF : Hid (∀ (W' : World) ao' c', HRow W' B (.slice ao' (l.length + 0) c') (l ++ []) → w2.drew.grownBy W' (Value.slice vo l.length vc).ownBlock → Fresh w2.drew (.slice vo l.length vc) (.slice ao' (l.length + 0) c') → (W'.cell? ⟨b, 1, none⟩ = some (.slice vo l.length vc) ∧ W'.frozen? ⟨b, 1, none⟩ = false) ∧ RIn (W'.setCell ⟨b, 1, none⟩ (.slice ao' (l.length + 0) c')) B b (.slice ao' (l.length + 0) c') rm O (l ++ []) ∧ IAct w (W'.setCell ⟨b, 1, none⟩ (.slice ao' (l.length + 0) c')) b (.slice vo l.length vc) (.slice ao' (l.length + 0) c')) := fun W' ao' c' hr hg hf => by
          have hi := HI2.out.later hD
          have := hi.putV hg hr hf (by simp; omega)
          exact ⟨this.1, this.2.1, HA2.out.trans ((IAct.ofBelow hD).trans this.2.2)⟩
        clear HI2 HA2
        go_wp2
        go_region_law (refine step_append_held rfl (.tmp 61) (.tmp 67) 22 rfl B i0 (.int .u8 0) Try.underlying22 hi hz0 hz1 hz2 rfl (.slice vo l.length vc) l (by simp [Act.eval, Act.put]) HX.out.1 (some a) 0 0 [] (by simp [Act.eval, Act.put]) (HX.out.2.1 _ _ (by simp)) rfl (by omega) HX.out.2.2 ?_; intro ao' c' w3 hr3 hg3 hf3; obtain ⟨⟨c3, f3⟩, hp3⟩ := HF.out w3 ao' c' hr3 hg3 hf3; have HP3 : Hid _ := hp3; clear hp3 hr3 hg3 hf3)
        all_goals
          go_wp2
          go_ret
          rw [hO]
          have hp3 := HP3.out
          simp only [List.append_nil, Nat.add_zero] at hp3
          simp
          exact ⟨_, hp3.1, hp3.2⟩
      · have hcn : ¬ (cap - p = 0) := by omega
        have hcn3 : ¬ (cap = p) := fun e => hcp e.symm
        have hcn2 : ¬ ((cap : Int) - (p : Int) = 0) := by omega
        have hca : ((cap - p : Nat) : Int) = (cap : Int) - (p : Int) := by omega
        have HX : Hid (HRow w2.drew B (.slice vo l.length vc) l ∧ (∀ ao c, (ao = none → c = 0) → BRow w2.drew ao c []) ∧ B ≤ w2.drew.heap.size) := ⟨HI2.out.row.later hD, (fun ao c h => ⟨by simp, by simp, fun e => ⟨rfl, h e⟩, fun h => absurd rfl h⟩), hB2⟩
        have HF : Hid (∀ (W' : World) ao' c', HRow W' B (.slice ao' (l.length + 0) c') (l ++ []) → w2.drew.grownBy W' (Value.slice vo l.length vc).ownBlock → Fresh w2.drew (.slice vo l.length vc) (.slice ao' (l.length + 0) c') → (W'.cell? ⟨b, 1, none⟩ = some (.slice vo l.length vc) ∧ W'.frozen? ⟨b, 1, none⟩ = false) ∧ RIn (W'.setCell ⟨b, 1, none⟩ (.slice ao' (l.length + 0) c')) B b (.slice ao' (l.length + 0) c') rm O (l ++ []) ∧ IAct w (W'.setCell ⟨b, 1, none⟩ (.slice ao' (l.length + 0) c')) b (.slice vo l.length vc) (.slice ao' (l.length + 0) c')) := fun W' ao' c' hr hg hf => by
          have hi := HI2.out.later hD
          have := hi.putV hg hr hf (by simp; omega)
          exact ⟨this.1, this.2.1, HA2.out.trans ((IAct.ofBelow hD).trans this.2.2)⟩
        clear HI2 HA2
        go_wp2
        go_region_law (refine step_append_held rfl (.tmp 61) (.tmp 67) 22 rfl B i0 (.int .u8 0) Try.underlying22 hi hz0 hz1 hz2 rfl (.slice vo l.length vc) l (by simp [Act.eval, Act.put]) HX.out.1 _ 0 _ [] (by rfl) (HX.out.2.1 _ _ (by simp)) rfl (by omega) HX.out.2.2 ?_; intro ao' c' w3 hr3 hg3 hf3; obtain ⟨⟨c3, f3⟩, hp3⟩ := HF.out w3 ao' c' hr3 hg3 hf3; have HP3 : Hid _ := hp3; clear hp3 hr3 hg3 hf3)
        all_goals
          go_wp2
          go_ret
          rw [hO]
          have hp3 := HP3.out
          simp only [List.append_nil, Nat.add_zero] at hp3
          simp
          exact ⟨_, hp3.1, hp3.2⟩
end Go.Proofs.Ytckfmpoddmccfaa
namespace Go.Proofs.Ytckfmpoddmccfaa
open Go.RowKit
set_option linter.unusedVariables false
set_option linter.unusedSimpArgs false
set_option maxRecDepth 100000
set_option maxHeartbeats 8000000 in
theorem decChunk1_long (b off cap n : Nat) (l : List Nat) (most : Nat) (f t c o k : Nat) (w : World) (h : CRow w (some ⟨b, off, none⟩) cap l) (HN : Hid (l.length = n)) (hs : 32 ≤ n) (HX0 : Hid (valB ((l.drop 0).take 4) = mChunk64)) (HX1 : Hid (valB ((l.drop 4).take 2) = f)) (HX2 : Hid (valB ((l.drop 6).take 2) = t)) (HX3 : Hid (valB ((l.drop 8).take 8) = c)) (HX4 : Hid (valB ((l.drop 16).take 8) = o)) (HX5 : Hid (valB ((l.drop 24).take 8) = k)) (hk64 : k < 18446744073709551616) (hm4 : most < 4294967296) (hlong : most < k) :
    Calls Try.prog 112 #[.slice (some ⟨b, off, none⟩) n cap, .int .u32 (most : Int), .bool true] w fun e w' => ∃ ao2 cap2, e = .returned (.tuple #[.agg #[.int .u16 (f : Int), .int .u16 (t : Int), .int .u64 (c : Int), .int .u64 (o : Int), .slice ao2 0 cap2], .int .i64 32, .int .i64 12]) ∧ Row w w' ao2 cap2 [] := by
  have HXs : Hid (∀ W : World, Calls Try.prog 94 #[.bool true] W fun e W' => e = .returned (.tuple #[.int .u32 (mChunk64 : Nat), .int .i64 32]) ∧ W' = W) := fun W => by
    go_enter Try.func94, Try.ntmps94
    go_wp2
    go_ret2
    exact ⟨rfl, rfl⟩
  obtain ⟨m, hm⟩ : ∃ m : List Nat, m = [] := ⟨_, rfl⟩
  have hnl := h.row.len
  rw [HN.out] at hnl
  have hsl : 32 ≤ l.length := by rw [HN.out]; exact hs
  have HC : Hid (CRow w (some ⟨b, off, none⟩) cap l) := h
  obtain ⟨W0, hW0⟩ : ∃ W0, W0 = (((w.alloc (.cells #[.int .u16 0, .int .u16 0, .int .u64 0, .int .u64 0, nilV] 64)).alloc (.cells #[.int .u16 0, .int .u16 0, .int .u64 0, .int .u64 0, nilV] 64)).alloc (.cells #[.int .u16 0, .int .u16 0, .int .u64 0, .int .u64 0, nilV] 64)) := ⟨_, rfl⟩
  have HO : Hid (Calls Try.prog 99 #[.slice (some ⟨b, off, none⟩) n cap, .int .i64 32] W0 fun e W' => ∃ r hh ao' cap' a2 c2, e = .returned (.pointer (some ⟨r, 0, none⟩)) ∧ Dec w W' (bx3 w 64 #[.int .u16 0, .int .u16 0, .int .u64 0, .int .u64 0, nilV] #[.int .u16 0, .int .u16 0, .int .u64 0, .int .u64 0, nilV] #[.int .u16 0, .int .u16 0, .int .u64 0, .int .u64 0, nilV]) W0.heap.size r hh ao' cap' (l.take 32) 0 (.slice (some a2) (n - 32) c2) 0 32 0 ∧ n - 32 ≤ c2 ∧ c2 ≤ 9223372036854775807 ∧ (n - 32 ≠ 0 → a2 = ⟨b, off + 32, none⟩)) := by
    rw [hW0]; exact open_ok b off cap n 32 l (bx3_bel w _ _ _) (bx3_new w _ _ _ _) (bx3_nd w _ _ _ _) (h.later (bx3_bel w _ _ _)) HN hs (by decide) (by decide)
  clear h
  go_enter Try.func112, Try.ntmps112
  go_wp2
  refine wp_scope_jumps 0 (fun _ _ => False) (fun _ _ => 0) rfl ?first ?pass
  case first =>
    go_wp2_with fail
    refine (HXs.out _).mono ?_
    rintro e W9 ⟨rfl, hw9⟩
    rw [hw9]; clear hw9 HXs
    go_wp2_with fail
    rw [← hW0]
    clear hW0
    refine HO.out.mono ?_
    rintro e W1 ⟨r, hh, ao', cap', a2, c2, rfl, h1, hc1, hc2, ha2⟩
    have H1 : Hid _ := h1
    have HA : Hid _ := ha2
    clear h1 HO ha2
    go_wp2_with fail
    refine (magic32_ok H1.out (by rw [List.length_take]; omega) mChunk64 (by rw [tk _ _ _ _ (by decide)]; exact HX0.out)).mono ?_
    rintro e W2 ⟨rfl, hx⟩
    have H2 : Hid _ := hx
    clear hx H1
    go_wp2_with fail
    refine (rx_u16 H2.out f HX1.out (by decide) hsl).mono ?_
    rintro e W3 ⟨rfl, hx⟩
    have H3 : Hid _ := hx
    clear hx H2
    go_wp2_with fail
    refine (rx_u16 H3.out t HX2.out (by decide) hsl).mono ?_
    rintro e W4 ⟨rfl, hx⟩
    have H4 : Hid _ := hx
    clear hx H3
    go_wp2_with fail
    refine (rx_u64 H4.out c HX3.out (by decide) hsl).mono ?_
    rintro e W5 ⟨rfl, hx⟩
    have H5 : Hid _ := hx
    clear hx H4
    obtain ⟨s0, u0⟩ := H5.out.b (.tail _ (.tail _ (.head _))) 0
    simp at s0
    obtain ⟨s1, u1⟩ := H5.out.b (.tail _ (.tail _ (.head _))) 1
    simp at s1
    obtain ⟨s2, u2⟩ := H5.out.b (.tail _ (.tail _ (.head _))) 2
    simp at s2
    go_wp2_with fail
    replace H5 : Hid _ := H5.out.putS 0 (.int .u16 (f : Int)) #[.int .u16 (f : Int), .int .u16 0, .int .u64 0, .int .u64 0, nilV] rfl
    replace H5 : Hid _ := H5.out.putS 1 (.int .u16 (t : Int)) #[.int .u16 (f : Int), .int .u16 (t : Int), .int .u64 0, .int .u64 0, nilV] rfl
    replace H5 : Hid _ := H5.out.putS 2 (.int .u64 (c : Int)) #[.int .u16 (f : Int), .int .u16 (t : Int), .int .u64 (c : Int), .int .u64 0, nilV] rfl
    refine (rx_u64 H5.out o HX4.out (by decide) hsl).mono ?_
    rintro e W6 ⟨rfl, hx⟩
    have H6 : Hid _ := hx
    clear hx H5 s0 u0 s1 u1 s2 u2
    obtain ⟨s3, u3⟩ := H6.out.b (.tail _ (.tail _ (.head _))) 3
    simp at s3
    go_wp2_with fail
    replace H6 : Hid _ := H6.out.putS 3 (.int .u64 (o : Int)) #[.int .u16 (f : Int), .int .u16 (t : Int), .int .u64 (c : Int), .int .u64 (o : Int), nilV] rfl
    refine (rx_number_wide H6.out k HX5.out (by decide) hsl).mono ?_
    rintro e W7 ⟨rfl, hx⟩
    have H7 : Hid _ := hx
    clear hx H6 s3 u3
    go_wp2_with fail
    refine (measure_long H7.out k most hm4 hlong hk64).mono ?_
    rintro e W8 ⟨rfl, hx⟩
    have H8 : Hid _ := hx
    clear hx H7
    have hml : m.length = 0 := by rw [hm]; rfl
    have hmt : ∀ x ∈ m, x < 256 := by rw [hm]; simp
    have HDt : Hid _ := data_any (len := 0) H8.out m hml hmt (by rw [hm]; simp) (by omega) hc1 (by omega) hc2
    have HB : Hid (w.heap.size + 1 + 1 < W8.heap.size) := by show _ < _; have h1 := block_lt H8.out.rd; have h2 := H8.out.hr; have h3 : w.heap.size + 1 + 1 < _ := (H8.out.box _ (.tail _ (.tail _ (.head _)))).2.2; omega
    have HMm : Hid (m = []) := hm
    clear hm
    clear H8 HX0 HX1 HX2 HX3 HX5 HN HC hml hmt HA HX4
    go_wp2_with fail
    refine Calls.mono HDt.out ?_
    rintro e W9 ⟨ao2, cap2, rfl, ho, hb, h9⟩
    have H9 : Hid _ := h9
    have HR : Hid (W9.ownsRow W8.heap.size 5 1 (.slice ao2 0 cap2) 0 (m.map bv)) := ho
    clear h9 ho hb HDt
    obtain ⟨c10, f10⟩ := H9.out.b (.tail _ (.head _)) 0
    obtain ⟨c20, f20⟩ := H9.out.b (.tail _ (.tail _ (.head _))) 0
    obtain ⟨c11, f11⟩ := H9.out.b (.tail _ (.head _)) 1
    obtain ⟨c21, f21⟩ := H9.out.b (.tail _ (.tail _ (.head _))) 1
    obtain ⟨c12, f12⟩ := H9.out.b (.tail _ (.head _)) 2
    obtain ⟨c22, f22⟩ := H9.out.b (.tail _ (.tail _ (.head _))) 2
    obtain ⟨c13, f13⟩ := H9.out.b (.tail _ (.head _)) 3
    obtain ⟨c23, f23⟩ := H9.out.b (.tail _ (.tail _ (.head _))) 3
    obtain ⟨c14, f14⟩ := H9.out.b (.tail _ (.head _)) 4
    obtain ⟨c24, f24⟩ := H9.out.b (.tail _ (.tail _ (.head _))) 4
    simp at c10 c20 c11 c21 c12 c22 c13 c23 c14 c24
    go_wp2
    go_step3
    have HF : Hid _ := ((((((H9.out.putS 4 (.slice ao2 0 cap2) #[.int .u16 (f : Int), .int .u16 (t : Int), .int .u64 (c : Int), .int .u64 (o : Int), .slice ao2 0 cap2] rfl).putO 0 (.int .u16 (f : Int)) #[.int .u16 (f : Int), .int .u16 0, .int .u64 0, .int .u64 0, nilV] rfl).putO 1 (.int .u16 (t : Int)) #[.int .u16 (f : Int), .int .u16 (t : Int), .int .u64 0, .int .u64 0, nilV] rfl).putO 2 (.int .u64 (c : Int)) #[.int .u16 (f : Int), .int .u16 (t : Int), .int .u64 (c : Int), .int .u64 0, nilV] rfl).putO 3 (.int .u64 (o : Int)) #[.int .u16 (f : Int), .int .u16 (t : Int), .int .u64 (c : Int), .int .u64 (o : Int), nilV] rfl).putO 4 (.slice ao2 0 cap2) #[.int .u16 (f : Int), .int .u16 (t : Int), .int .u64 (c : Int), .int .u64 (o : Int), .slice ao2 0 cap2] rfl)
    have HW : Hid ((((((((W9.setCell ⟨w.heap.size + 1 + 1, 4, none⟩ (.slice ao2 0 cap2)).setCell ⟨w.heap.size + 1, 0, none⟩ (.int .u16 (f : Int))).setCell ⟨w.heap.size + 1, 1, none⟩ (.int .u16 (t : Int))).setCell ⟨w.heap.size + 1, 2, none⟩ (.int .u64 (c : Int))).setCell ⟨w.heap.size + 1, 3, none⟩ (.int .u64 (o : Int))).setCell ⟨w.heap.size + 1, 4, none⟩ (.slice ao2 0 cap2))).ownsRow W8.heap.size 5 1 (.slice ao2 0 cap2) 0 (m.map bv)) := setAll_owns [(w.heap.size + 1 + 1, 4, .slice ao2 0 cap2), (w.heap.size + 1, 0, .int .u16 (f : Int)), (w.heap.size + 1, 1, .int .u16 (t : Int)), (w.heap.size + 1, 2, .int .u64 (c : Int)), (w.heap.size + 1, 3, .int .u64 (o : Int)), (w.heap.size + 1, 4, .slice ao2 0 cap2)] W9 HR.out (by have := HB.out; simp; omega)
    clear HR H9 c10 f10 c20 f20 c11 f11 c21 f21 c12 f12 c22 f22 c13 f13 c23 f23 c14 f14 c24 f24
    generalize ((((((W9.setCell ⟨w.heap.size + 1 + 1, 4, none⟩ (.slice ao2 0 cap2)).setCell ⟨w.heap.size + 1, 0, none⟩ (.int .u16 (f : Int))).setCell ⟨w.heap.size + 1, 1, none⟩ (.int .u16 (t : Int))).setCell ⟨w.heap.size + 1, 2, none⟩ (.int .u64 (c : Int))).setCell ⟨w.heap.size + 1, 3, none⟩ (.int .u64 (o : Int))).setCell ⟨w.heap.size + 1, 4, none⟩ (.slice ao2 0 cap2)) = Wx at *
    have hn1 : ¬ (w.heap.size = r) := (HF.out.lb.box _ (.head _)).2.2
    have hn2 : ¬ (r = w.heap.size) := fun e => hn1 e.symm
    have r3 := HF.out.lb.cn
    have r4 := HF.out.lb.ce
    obtain ⟨c00, f00⟩ := HF.out.b (.head _) 0
    obtain ⟨c10, f10⟩ := HF.out.b (.tail _ (.head _)) 0
    obtain ⟨c01, f01⟩ := HF.out.b (.head _) 1
    obtain ⟨c11, f11⟩ := HF.out.b (.tail _ (.head _)) 1
    obtain ⟨c02, f02⟩ := HF.out.b (.head _) 2
    obtain ⟨c12, f12⟩ := HF.out.b (.tail _ (.head _)) 2
    obtain ⟨c03, f03⟩ := HF.out.b (.head _) 3
    obtain ⟨c13, f13⟩ := HF.out.b (.tail _ (.head _)) 3
    obtain ⟨c04, f04⟩ := HF.out.b (.head _) 4
    obtain ⟨c14, f14⟩ := HF.out.b (.tail _ (.head _)) 4
    simp at c00 c10 c01 c11 c02 c12 c03 c13 c04 c14
    go_wp2
    go_region
    all_goals
      go_wp2
      rw [jump_ret]
      obtain ⟨HG, HW2, HB2⟩ := close5 (HF.out.box _ (.head _)).1 HF.out.bel HW.out (by have := HB.out; omega) (.int .u16 (f : Int)) (.int .u16 (t : Int)) (.int .u64 (c : Int)) (.int .u64 (o : Int)) (.slice ao2 0 cap2)
      clear HF HW
      generalize (((((Wx.setCell ⟨w.heap.size, 0, none⟩ (.int .u16 (f : Int))).setCell ⟨w.heap.size, 1, none⟩ (.int .u16 (t : Int))).setCell ⟨w.heap.size, 2, none⟩ (.int .u64 (c : Int))).setCell ⟨w.heap.size, 3, none⟩ (.int .u64 (o : Int))).setCell ⟨w.heap.size, 4, none⟩ (.slice ao2 0 cap2)).drew = Wz at HG HW2 HB2 ⊢
      exact bodyPost_ret (results_cell_tmp2 rfl _ Wz w.heap.size 64 #[.int .u16 (f : Int), .int .u16 (t : Int), .int .u64 (c : Int), .int .u64 (o : Int), .slice ao2 0 cap2] (0, 0) _ rfl HG Try.underlying64 rfl infoChk) rfl ⟨_, _, rfl, by have e := HMm.out; rw [e] at HW2; exact owns_mono HW2 (by have := HB.out; omega), by simp, HB2⟩
  case pass =>
    rintro a W hf
    exact hf.elim
set_option maxHeartbeats 8000000 in
theorem decChunk0_long (b off cap n : Nat) (l : List Nat) (most : Nat) (f t c k : Nat) (w : World) (h : CRow w (some ⟨b, off, none⟩) cap l) (HN : Hid (l.length = n)) (hs : 20 ≤ n) (HX0 : Hid (valB ((l.drop 0).take 4) = mChunk)) (HX1 : Hid (valB ((l.drop 4).take 2) = f)) (HX2 : Hid (valB ((l.drop 6).take 2) = t)) (HX3 : Hid (valB ((l.drop 8).take 8) = c)) (HX5 : Hid (valB ((l.drop 16).take 4) = k)) (hk64 : k < 18446744073709551616) (hm4 : most < 4294967296) (hlong : most < k) :
    Calls Try.prog 112 #[.slice (some ⟨b, off, none⟩) n cap, .int .u32 (most : Int), .bool false] w fun e w' => ∃ ao2 cap2, e = .returned (.tuple #[.agg #[.int .u16 (f : Int), .int .u16 (t : Int), .int .u64 (c : Int), .int .u64 0, .slice ao2 0 cap2], .int .i64 20, .int .i64 12]) ∧ Row w w' ao2 cap2 [] := by
  have HXs : Hid (∀ W : World, Calls Try.prog 94 #[.bool false] W fun e W' => e = .returned (.tuple #[.int .u32 (mChunk : Nat), .int .i64 20]) ∧ W' = W) := fun W => by
    go_enter Try.func94, Try.ntmps94
    go_wp2
    go_ret2
    exact ⟨rfl, rfl⟩
  obtain ⟨m, hm⟩ : ∃ m : List Nat, m = [] := ⟨_, rfl⟩
  have hnl := h.row.len
  rw [HN.out] at hnl
  have hsl : 20 ≤ l.length := by rw [HN.out]; exact hs
  have HC : Hid (CRow w (some ⟨b, off, none⟩) cap l) := h
  obtain ⟨W0, hW0⟩ : ∃ W0, W0 = (((w.alloc (.cells #[.int .u16 0, .int .u16 0, .int .u64 0, .int .u64 0, nilV] 64)).alloc (.cells #[.int .u16 0, .int .u16 0, .int .u64 0, .int .u64 0, nilV] 64)).alloc (.cells #[.int .u16 0, .int .u16 0, .int .u64 0, .int .u64 0, nilV] 64)) := ⟨_, rfl⟩
  have HO : Hid (Calls Try.prog 99 #[.slice (some ⟨b, off, none⟩) n cap, .int .i64 20] W0 fun e W' => ∃ r hh ao' cap' a2 c2, e = .returned (.pointer (some ⟨r, 0, none⟩)) ∧ Dec w W' (bx3 w 64 #[.int .u16 0, .int .u16 0, .int .u64 0, .int .u64 0, nilV] #[.int .u16 0, .int .u16 0, .int .u64 0, .int .u64 0, nilV] #[.int .u16 0, .int .u16 0, .int .u64 0, .int .u64 0, nilV]) W0.heap.size r hh ao' cap' (l.take 20) 0 (.slice (some a2) (n - 20) c2) 0 20 0 ∧ n - 20 ≤ c2 ∧ c2 ≤ 9223372036854775807 ∧ (n - 20 ≠ 0 → a2 = ⟨b, off + 20, none⟩)) := by
    rw [hW0]; exact open_ok b off cap n 20 l (bx3_bel w _ _ _) (bx3_new w _ _ _ _) (bx3_nd w _ _ _ _) (h.later (bx3_bel w _ _ _)) HN hs (by decide) (by decide)
  clear h
  go_enter Try.func112, Try.ntmps112
  go_wp2
  refine wp_scope_jumps 0 (fun _ _ => False) (fun _ _ => 0) rfl ?first ?pass
  case first =>
    go_wp2_with fail
    refine (HXs.out _).mono ?_
    rintro e W9 ⟨rfl, hw9⟩
    rw [hw9]; clear hw9 HXs
    go_wp2_with fail
    rw [← hW0]
    clear hW0
    refine HO.out.mono ?_
    rintro e W1 ⟨r, hh, ao', cap', a2, c2, rfl, h1, hc1, hc2, ha2⟩
    have H1 : Hid _ := h1
    have HA : Hid _ := ha2
    clear h1 HO ha2
    go_wp2_with fail
    refine (magic32_ok H1.out (by rw [List.length_take]; omega) mChunk (by rw [tk _ _ _ _ (by decide)]; exact HX0.out)).mono ?_
    rintro e W2 ⟨rfl, hx⟩
    have H2 : Hid _ := hx
    clear hx H1
    go_wp2_with fail
    refine (rx_u16 H2.out f HX1.out (by decide) hsl).mono ?_
    rintro e W3 ⟨rfl, hx⟩
    have H3 : Hid _ := hx
    clear hx H2
    go_wp2_with fail
    refine (rx_u16 H3.out t HX2.out (by decide) hsl).mono ?_
    rintro e W4 ⟨rfl, hx⟩
    have H4 : Hid _ := hx
    clear hx H3
    go_wp2_with fail
    refine (rx_u64 H4.out c HX3.out (by decide) hsl).mono ?_
    rintro e W5 ⟨rfl, hx⟩
    have H5 : Hid _ := hx
    clear hx H4
    obtain ⟨s0, u0⟩ := H5.out.b (.tail _ (.tail _ (.head _))) 0
    simp at s0
    obtain ⟨s1, u1⟩ := H5.out.b (.tail _ (.tail _ (.head _))) 1
    simp at s1
    obtain ⟨s2, u2⟩ := H5.out.b (.tail _ (.tail _ (.head _))) 2
    simp at s2
    go_wp2_with fail
    replace H5 : Hid _ := H5.out.putS 0 (.int .u16 (f : Int)) #[.int .u16 (f : Int), .int .u16 0, .int .u64 0, .int .u64 0, nilV] rfl
    replace H5 : Hid _ := H5.out.putS 1 (.int .u16 (t : Int)) #[.int .u16 (f : Int), .int .u16 (t : Int), .int .u64 0, .int .u64 0, nilV] rfl
    replace H5 : Hid _ := H5.out.putS 2 (.int .u64 (c : Int)) #[.int .u16 (f : Int), .int .u16 (t : Int), .int .u64 (c : Int), .int .u64 0, nilV] rfl
    refine (rx_number_plain H5.out k HX5.out (by decide) hsl).mono ?_
    rintro e W6 ⟨rfl, hx⟩
    have H6 : Hid _ := hx
    clear hx H5 s0 u0 s1 u1 s2 u2
    go_wp2_with fail
    refine (measure_long H6.out k most hm4 hlong hk64).mono ?_
    rintro e W7 ⟨rfl, hx⟩
    have H7 : Hid _ := hx
    clear hx H6
    have hml : m.length = 0 := by rw [hm]; rfl
    have hmt : ∀ x ∈ m, x < 256 := by rw [hm]; simp
    have HDt : Hid _ := data_any (len := 0) H7.out m hml hmt (by rw [hm]; simp) (by omega) hc1 (by omega) hc2
    have HB : Hid (w.heap.size + 1 + 1 < W7.heap.size) := by show _ < _; have h1 := block_lt H7.out.rd; have h2 := H7.out.hr; have h3 : w.heap.size + 1 + 1 < _ := (H7.out.box _ (.tail _ (.tail _ (.head _)))).2.2; omega
    have HMm : Hid (m = []) := hm
    clear hm
    clear H7 HX0 HX1 HX2 HX3 HX5 HN HC hml hmt HA
    go_wp2_with fail
    refine Calls.mono HDt.out ?_
    rintro e W8 ⟨ao2, cap2, rfl, ho, hb, h9⟩
    have H8 : Hid _ := h9
    have HR : Hid (W8.ownsRow W7.heap.size 5 1 (.slice ao2 0 cap2) 0 (m.map bv)) := ho
    clear h9 ho hb HDt
    obtain ⟨c10, f10⟩ := H8.out.b (.tail _ (.head _)) 0
    obtain ⟨c20, f20⟩ := H8.out.b (.tail _ (.tail _ (.head _))) 0
    obtain ⟨c11, f11⟩ := H8.out.b (.tail _ (.head _)) 1
    obtain ⟨c21, f21⟩ := H8.out.b (.tail _ (.tail _ (.head _))) 1
    obtain ⟨c12, f12⟩ := H8.out.b (.tail _ (.head _)) 2
    obtain ⟨c22, f22⟩ := H8.out.b (.tail _ (.tail _ (.head _))) 2
    obtain ⟨c13, f13⟩ := H8.out.b (.tail _ (.head _)) 3
    obtain ⟨c23, f23⟩ := H8.out.b (.tail _ (.tail _ (.head _))) 3
    obtain ⟨c14, f14⟩ := H8.out.b (.tail _ (.head _)) 4
    obtain ⟨c24, f24⟩ := H8.out.b (.tail _ (.tail _ (.head _))) 4
    simp at c10 c20 c11 c21 c12 c22 c13 c23 c14 c24
    go_wp2
    go_step3
    have HF : Hid _ := ((((((H8.out.putS 4 (.slice ao2 0 cap2) #[.int .u16 (f : Int), .int .u16 (t : Int), .int .u64 (c : Int), .int .u64 0, .slice ao2 0 cap2] rfl).putO 0 (.int .u16 (f : Int)) #[.int .u16 (f : Int), .int .u16 0, .int .u64 0, .int .u64 0, nilV] rfl).putO 1 (.int .u16 (t : Int)) #[.int .u16 (f : Int), .int .u16 (t : Int), .int .u64 0, .int .u64 0, nilV] rfl).putO 2 (.int .u64 (c : Int)) #[.int .u16 (f : Int), .int .u16 (t : Int), .int .u64 (c : Int), .int .u64 0, nilV] rfl).putO 3 (.int .u64 0) #[.int .u16 (f : Int), .int .u16 (t : Int), .int .u64 (c : Int), .int .u64 0, nilV] rfl).putO 4 (.slice ao2 0 cap2) #[.int .u16 (f : Int), .int .u16 (t : Int), .int .u64 (c : Int), .int .u64 0, .slice ao2 0 cap2] rfl)
    have HW : Hid ((((((((W8.setCell ⟨w.heap.size + 1 + 1, 4, none⟩ (.slice ao2 0 cap2)).setCell ⟨w.heap.size + 1, 0, none⟩ (.int .u16 (f : Int))).setCell ⟨w.heap.size + 1, 1, none⟩ (.int .u16 (t : Int))).setCell ⟨w.heap.size + 1, 2, none⟩ (.int .u64 (c : Int))).setCell ⟨w.heap.size + 1, 3, none⟩ (.int .u64 0)).setCell ⟨w.heap.size + 1, 4, none⟩ (.slice ao2 0 cap2))).ownsRow W7.heap.size 5 1 (.slice ao2 0 cap2) 0 (m.map bv)) := setAll_owns [(w.heap.size + 1 + 1, 4, .slice ao2 0 cap2), (w.heap.size + 1, 0, .int .u16 (f : Int)), (w.heap.size + 1, 1, .int .u16 (t : Int)), (w.heap.size + 1, 2, .int .u64 (c : Int)), (w.heap.size + 1, 3, .int .u64 0), (w.heap.size + 1, 4, .slice ao2 0 cap2)] W8 HR.out (by have := HB.out; simp; omega)
    clear HR H8 c10 f10 c20 f20 c11 f11 c21 f21 c12 f12 c22 f22 c13 f13 c23 f23 c14 f14 c24 f24
    generalize ((((((W8.setCell ⟨w.heap.size + 1 + 1, 4, none⟩ (.slice ao2 0 cap2)).setCell ⟨w.heap.size + 1, 0, none⟩ (.int .u16 (f : Int))).setCell ⟨w.heap.size + 1, 1, none⟩ (.int .u16 (t : Int))).setCell ⟨w.heap.size + 1, 2, none⟩ (.int .u64 (c : Int))).setCell ⟨w.heap.size + 1, 3, none⟩ (.int .u64 0)).setCell ⟨w.heap.size + 1, 4, none⟩ (.slice ao2 0 cap2)) = Wx at *
    have hn1 : ¬ (w.heap.size = r) := (HF.out.lb.box _ (.head _)).2.2
    have hn2 : ¬ (r = w.heap.size) := fun e => hn1 e.symm
    have r3 := HF.out.lb.cn
    have r4 := HF.out.lb.ce
    obtain ⟨c00, f00⟩ := HF.out.b (.head _) 0
    obtain ⟨c10, f10⟩ := HF.out.b (.tail _ (.head _)) 0
    obtain ⟨c01, f01⟩ := HF.out.b (.head _) 1
    obtain ⟨c11, f11⟩ := HF.out.b (.tail _ (.head _)) 1
    obtain ⟨c02, f02⟩ := HF.out.b (.head _) 2
    obtain ⟨c12, f12⟩ := HF.out.b (.tail _ (.head _)) 2
    obtain ⟨c03, f03⟩ := HF.out.b (.head _) 3
    obtain ⟨c13, f13⟩ := HF.out.b (.tail _ (.head _)) 3
    obtain ⟨c04, f04⟩ := HF.out.b (.head _) 4
    obtain ⟨c14, f14⟩ := HF.out.b (.tail _ (.head _)) 4
    simp at c00 c10 c01 c11 c02 c12 c03 c13 c04 c14
    go_wp2
    go_region
    all_goals
      go_wp2
      rw [jump_ret]
      obtain ⟨HG, HW2, HB2⟩ := close5 (HF.out.box _ (.head _)).1 HF.out.bel HW.out (by have := HB.out; omega) (.int .u16 (f : Int)) (.int .u16 (t : Int)) (.int .u64 (c : Int)) (.int .u64 0) (.slice ao2 0 cap2)
      clear HF HW
      generalize (((((Wx.setCell ⟨w.heap.size, 0, none⟩ (.int .u16 (f : Int))).setCell ⟨w.heap.size, 1, none⟩ (.int .u16 (t : Int))).setCell ⟨w.heap.size, 2, none⟩ (.int .u64 (c : Int))).setCell ⟨w.heap.size, 3, none⟩ (.int .u64 0)).setCell ⟨w.heap.size, 4, none⟩ (.slice ao2 0 cap2)).drew = Wz at HG HW2 HB2 ⊢
      exact bodyPost_ret (results_cell_tmp2 rfl _ Wz w.heap.size 64 #[.int .u16 (f : Int), .int .u16 (t : Int), .int .u64 (c : Int), .int .u64 0, .slice ao2 0 cap2] (0, 0) _ rfl HG Try.underlying64 rfl infoChk) rfl ⟨_, _, rfl, by have e := HMm.out; rw [e] at HW2; exact owns_mono HW2 (by have := HB.out; omega), by simp, HB2⟩
  case pass =>
    rintro a W hf
    exact hf.elim
end Go.Proofs.Ytckfmpoddmccfaa
namespace Go.Proofs.Ytckfmpoddmccfaa
open Go.RowKit
set_option linter.unusedVariables false
set_option linter.unusedSimpArgs false
set_option maxRecDepth 100000
set_option maxHeartbeats 8000000 in
theorem decRequest0_plain (b off cap n : Nat) (l : List Nat) (most : Nat) (f t c o k : Nat) (w : World) (h : CRow w (some ⟨b, off, none⟩) cap l) (HN : Hid (l.length = n)) (hs : 28 ≤ n) (HX0 : Hid (valB ((l.drop 0).take 4) = mReq)) (HX1 : Hid (valB ((l.drop 4).take 2) = f)) (HX2 : Hid (valB ((l.drop 6).take 2) = t)) (HX3 : Hid (valB ((l.drop 8).take 8) = c)) (HX4 : Hid (valB ((l.drop 16).take 8) = o)) (HX5 : Hid (valB ((l.drop 24).take 4) = k)) (hk64 : k < 18446744073709551616) (hm4 : most < 4294967296) (hpay : payB f t false = false) :
    Calls Try.prog 78 #[.slice (some ⟨b, off, none⟩) n cap, .int .u32 (most : Int), .bool false] w fun e w' => ∃ ao2 cap2, e = .returned (.tuple #[.agg #[.int .u16 (f : Int), .int .u16 (t : Int), .int .u64 (c : Int), .int .u64 (o : Int), .int .u64 (k : Int), .slice ao2 0 cap2], .int .i64 28, .int .i64 0]) ∧ Row w w' ao2 cap2 [] := by
  have HXs : Hid (∀ W : World, Calls Try.prog 91 #[.bool false] W fun e W' => e = .returned (.tuple #[.int .u32 (mReq : Nat), .int .i64 28]) ∧ W' = W) := fun W => by
    go_enter Try.func91, Try.ntmps91
    go_wp2
    go_ret2
    exact ⟨rfl, rfl⟩
  obtain ⟨m, hm⟩ : ∃ m : List Nat, m = [] := ⟨_, rfl⟩
  have hnl := h.row.len
  rw [HN.out] at hnl
  have hsl : 28 ≤ l.length := by rw [HN.out]; exact hs
  have HC : Hid (CRow w (some ⟨b, off, none⟩) cap l) := h
  obtain ⟨W0, hW0⟩ : ∃ W0, W0 = (((w.alloc (.cells #[.int .u16 0, .int .u16 0, .int .u64 0, .int .u64 0, .int .u64 0, nilV] 60)).alloc (.cells #[.int .u16 0, .int .u16 0, .int .u64 0, .int .u64 0, .int .u64 0, nilV] 60)).alloc (.cells #[.int .u16 0, .int .u16 0, .int .u64 0, .int .u64 0, .int .u64 0, nilV] 60)) := ⟨_, rfl⟩
  have HO : Hid (Calls Try.prog 99 #[.slice (some ⟨b, off, none⟩) n cap, .int .i64 28] W0 fun e W' => ∃ r hh ao' cap' a2 c2, e = .returned (.pointer (some ⟨r, 0, none⟩)) ∧ Dec w W' (bx3 w 60 #[.int .u16 0, .int .u16 0, .int .u64 0, .int .u64 0, .int .u64 0, nilV] #[.int .u16 0, .int .u16 0, .int .u64 0, .int .u64 0, .int .u64 0, nilV] #[.int .u16 0, .int .u16 0, .int .u64 0, .int .u64 0, .int .u64 0, nilV]) W0.heap.size r hh ao' cap' (l.take 28) 0 (.slice (some a2) (n - 28) c2) 0 28 0 ∧ n - 28 ≤ c2 ∧ c2 ≤ 9223372036854775807 ∧ (n - 28 ≠ 0 → a2 = ⟨b, off + 28, none⟩)) := by
    rw [hW0]; exact open_ok b off cap n 28 l (bx3_bel w _ _ _) (bx3_new w _ _ _ _) (bx3_nd w _ _ _ _) (h.later (bx3_bel w _ _ _)) HN hs (by decide) (by decide)
  clear h
  go_enter Try.func78, Try.ntmps78
  go_wp2
  refine wp_scope_jumps 0 (fun _ _ => False) (fun _ _ => 0) rfl ?first ?pass
  case first =>
    go_wp2_with fail
    refine (HXs.out _).mono ?_
    rintro e W9 ⟨rfl, hw9⟩
    rw [hw9]; clear hw9 HXs
    go_wp2_with fail
    rw [← hW0]
    clear hW0
    refine HO.out.mono ?_
    rintro e W1 ⟨r, hh, ao', cap', a2, c2, rfl, h1, hc1, hc2, ha2⟩
    have H1 : Hid _ := h1
    have HA : Hid _ := ha2
    clear h1 HO ha2
    go_wp2_with fail
    refine (magic32_ok H1.out (by rw [List.length_take]; omega) mReq (by rw [tk _ _ _ _ (by decide)]; exact HX0.out)).mono ?_
    rintro e W2 ⟨rfl, hx⟩
    have H2 : Hid _ := hx
    clear hx H1
    go_wp2_with fail
    refine (rx_u16 H2.out f HX1.out (by decide) hsl).mono ?_
    rintro e W3 ⟨rfl, hx⟩
    have H3 : Hid _ := hx
    clear hx H2
    go_wp2_with fail
    refine (rx_u16 H3.out t HX2.out (by decide) hsl).mono ?_
    rintro e W4 ⟨rfl, hx⟩
    have H4 : Hid _ := hx
    clear hx H3
    obtain ⟨s0, u0⟩ := H4.out.b (.tail _ (.tail _ (.head _))) 0
    simp at s0
    obtain ⟨s1, u1⟩ := H4.out.b (.tail _ (.tail _ (.head _))) 1
    simp at s1
    go_wp2_with fail
    replace H4 : Hid _ := H4.out.putS 0 (.int .u16 (f : Int)) #[.int .u16 (f : Int), .int .u16 0, .int .u64 0, .int .u64 0, .int .u64 0, nilV] rfl
    replace H4 : Hid _ := H4.out.putS 1 (.int .u16 (t : Int)) #[.int .u16 (f : Int), .int .u16 (t : Int), .int .u64 0, .int .u64 0, .int .u64 0, nilV] rfl
    refine (rx_u64 H4.out c HX3.out (by decide) hsl).mono ?_
    rintro e W5 ⟨rfl, hx⟩
    have H5 : Hid _ := hx
    clear hx H4 s0 u0 s1 u1
    go_wp2_with fail
    refine (rx_u64 H5.out o HX4.out (by decide) hsl).mono ?_
    rintro e W6 ⟨rfl, hx⟩
    have H6 : Hid _ := hx
    clear hx H5
    go_wp2_with fail
    refine (rx_number_plain H6.out k HX5.out (by decide) hsl).mono ?_
    rintro e W7 ⟨rfl, hx⟩
    have H7 : Hid _ := hx
    clear hx H6
    obtain ⟨s2, u2⟩ := H7.out.b (.tail _ (.tail _ (.head _))) 2
    simp at s2
    obtain ⟨s3, u3⟩ := H7.out.b (.tail _ (.tail _ (.head _))) 3
    simp at s3
    obtain ⟨s4, u4⟩ := H7.out.b (.tail _ (.tail _ (.head _))) 4
    simp at s4
    obtain ⟨s0, u0⟩ := H7.out.b (.tail _ (.tail _ (.head _))) 0
    simp at s0
    obtain ⟨s1, u1⟩ := H7.out.b (.tail _ (.tail _ (.head _))) 1
    simp at s1
    obtain ⟨s5, u5⟩ := H7.out.b (.tail _ (.tail _ (.head _))) 5
    simp at s5
    go_wp2_with fail
    replace H7 : Hid _ := H7.out.putS 2 (.int .u64 (c : Int)) #[.int .u16 (f : Int), .int .u16 (t : Int), .int .u64 (c : Int), .int .u64 0, .int .u64 0, nilV] rfl
    replace H7 : Hid _ := H7.out.putS 3 (.int .u64 (o : Int)) #[.int .u16 (f : Int), .int .u16 (t : Int), .int .u64 (c : Int), .int .u64 (o : Int), .int .u64 0, nilV] rfl
    replace H7 : Hid _ := H7.out.putS 4 (.int .u64 (k : Int)) #[.int .u16 (f : Int), .int .u16 (t : Int), .int .u64 (c : Int), .int .u64 (o : Int), .int .u64 (k : Int), nilV] rfl
    refine (pay_any f t c o k none 0 [] false _).mono ?_
    rintro e W8 ⟨rfl, hb9⟩
    have H8 : Hid _ := H7.out.later hb9
    clear hb9 H7 s2 u2 s3 u3 s4 u4 s0 u0 s1 u1 s5 u5
    rw [hpay]
    have hml : m.length = 0 := by rw [hm]; rfl
    have hmt : ∀ x ∈ m, x < 256 := by rw [hm]; simp
    have HDt : Hid _ := data_any (len := 0) H8.out m hml hmt (by rw [hm]; simp) (by omega) hc1 (by omega) hc2
    have HB : Hid (w.heap.size + 1 + 1 < W8.heap.size) := by show _ < _; have h1 := block_lt H8.out.rd; have h2 := H8.out.hr; have h3 : w.heap.size + 1 + 1 < _ := (H8.out.box _ (.tail _ (.tail _ (.head _)))).2.2; omega
    have HMm : Hid (m = []) := hm
    clear hm
    clear H8 HX0 HX1 HX2 HX3 HX4 HX5 HN HC hml hmt HA 
    go_wp2_with fail
    refine Calls.mono HDt.out ?_
    rintro e W9 ⟨ao2, cap2, rfl, ho, hb, h9⟩
    have H9 : Hid _ := h9
    have HR : Hid (W9.ownsRow W8.heap.size 5 1 (.slice ao2 0 cap2) 0 (m.map bv)) := ho
    clear h9 ho hb HDt
    obtain ⟨c10, f10⟩ := H9.out.b (.tail _ (.head _)) 0
    obtain ⟨c20, f20⟩ := H9.out.b (.tail _ (.tail _ (.head _))) 0
    obtain ⟨c11, f11⟩ := H9.out.b (.tail _ (.head _)) 1
    obtain ⟨c21, f21⟩ := H9.out.b (.tail _ (.tail _ (.head _))) 1
    obtain ⟨c12, f12⟩ := H9.out.b (.tail _ (.head _)) 2
    obtain ⟨c22, f22⟩ := H9.out.b (.tail _ (.tail _ (.head _))) 2
    obtain ⟨c13, f13⟩ := H9.out.b (.tail _ (.head _)) 3
    obtain ⟨c23, f23⟩ := H9.out.b (.tail _ (.tail _ (.head _))) 3
    obtain ⟨c14, f14⟩ := H9.out.b (.tail _ (.head _)) 4
    obtain ⟨c24, f24⟩ := H9.out.b (.tail _ (.tail _ (.head _))) 4
    obtain ⟨c15, f15⟩ := H9.out.b (.tail _ (.head _)) 5
    obtain ⟨c25, f25⟩ := H9.out.b (.tail _ (.tail _ (.head _))) 5
    simp at c10 c20 c11 c21 c12 c22 c13 c23 c14 c24 c15 c25
    go_wp2
    go_step3
    have HF : Hid _ := (((((((H9.out.putS 5 (.slice ao2 0 cap2) #[.int .u16 (f : Int), .int .u16 (t : Int), .int .u64 (c : Int), .int .u64 (o : Int), .int .u64 (k : Int), .slice ao2 0 cap2] rfl).putO 0 (.int .u16 (f : Int)) #[.int .u16 (f : Int), .int .u16 0, .int .u64 0, .int .u64 0, .int .u64 0, nilV] rfl).putO 1 (.int .u16 (t : Int)) #[.int .u16 (f : Int), .int .u16 (t : Int), .int .u64 0, .int .u64 0, .int .u64 0, nilV] rfl).putO 2 (.int .u64 (c : Int)) #[.int .u16 (f : Int), .int .u16 (t : Int), .int .u64 (c : Int), .int .u64 0, .int .u64 0, nilV] rfl).putO 3 (.int .u64 (o : Int)) #[.int .u16 (f : Int), .int .u16 (t : Int), .int .u64 (c : Int), .int .u64 (o : Int), .int .u64 0, nilV] rfl).putO 4 (.int .u64 (k : Int)) #[.int .u16 (f : Int), .int .u16 (t : Int), .int .u64 (c : Int), .int .u64 (o : Int), .int .u64 (k : Int), nilV] rfl).putO 5 (.slice ao2 0 cap2) #[.int .u16 (f : Int), .int .u16 (t : Int), .int .u64 (c : Int), .int .u64 (o : Int), .int .u64 (k : Int), .slice ao2 0 cap2] rfl)
    have HW : Hid (((((((((W9.setCell ⟨w.heap.size + 1 + 1, 5, none⟩ (.slice ao2 0 cap2)).setCell ⟨w.heap.size + 1, 0, none⟩ (.int .u16 (f : Int))).setCell ⟨w.heap.size + 1, 1, none⟩ (.int .u16 (t : Int))).setCell ⟨w.heap.size + 1, 2, none⟩ (.int .u64 (c : Int))).setCell ⟨w.heap.size + 1, 3, none⟩ (.int .u64 (o : Int))).setCell ⟨w.heap.size + 1, 4, none⟩ (.int .u64 (k : Int))).setCell ⟨w.heap.size + 1, 5, none⟩ (.slice ao2 0 cap2))).ownsRow W8.heap.size 5 1 (.slice ao2 0 cap2) 0 (m.map bv)) := setAll_owns [(w.heap.size + 1 + 1, 5, .slice ao2 0 cap2), (w.heap.size + 1, 0, .int .u16 (f : Int)), (w.heap.size + 1, 1, .int .u16 (t : Int)), (w.heap.size + 1, 2, .int .u64 (c : Int)), (w.heap.size + 1, 3, .int .u64 (o : Int)), (w.heap.size + 1, 4, .int .u64 (k : Int)), (w.heap.size + 1, 5, .slice ao2 0 cap2)] W9 HR.out (by have := HB.out; simp; omega)
    clear HR H9 c10 f10 c20 f20 c11 f11 c21 f21 c12 f12 c22 f22 c13 f13 c23 f23 c14 f14 c24 f24 c15 f15 c25 f25
    generalize (((((((W9.setCell ⟨w.heap.size + 1 + 1, 5, none⟩ (.slice ao2 0 cap2)).setCell ⟨w.heap.size + 1, 0, none⟩ (.int .u16 (f : Int))).setCell ⟨w.heap.size + 1, 1, none⟩ (.int .u16 (t : Int))).setCell ⟨w.heap.size + 1, 2, none⟩ (.int .u64 (c : Int))).setCell ⟨w.heap.size + 1, 3, none⟩ (.int .u64 (o : Int))).setCell ⟨w.heap.size + 1, 4, none⟩ (.int .u64 (k : Int))).setCell ⟨w.heap.size + 1, 5, none⟩ (.slice ao2 0 cap2)) = Wx at *
    have hn1 : ¬ (w.heap.size = r) := (HF.out.lb.box _ (.head _)).2.2
    have hn2 : ¬ (r = w.heap.size) := fun e => hn1 e.symm
    have r3 := HF.out.lb.cn
    have r4 := HF.out.lb.ce
    obtain ⟨c00, f00⟩ := HF.out.b (.head _) 0
    obtain ⟨c10, f10⟩ := HF.out.b (.tail _ (.head _)) 0
    obtain ⟨c01, f01⟩ := HF.out.b (.head _) 1
    obtain ⟨c11, f11⟩ := HF.out.b (.tail _ (.head _)) 1
    obtain ⟨c02, f02⟩ := HF.out.b (.head _) 2
    obtain ⟨c12, f12⟩ := HF.out.b (.tail _ (.head _)) 2
    obtain ⟨c03, f03⟩ := HF.out.b (.head _) 3
    obtain ⟨c13, f13⟩ := HF.out.b (.tail _ (.head _)) 3
    obtain ⟨c04, f04⟩ := HF.out.b (.head _) 4
    obtain ⟨c14, f14⟩ := HF.out.b (.tail _ (.head _)) 4
    obtain ⟨c05, f05⟩ := HF.out.b (.head _) 5
    obtain ⟨c15, f15⟩ := HF.out.b (.tail _ (.head _)) 5
    simp at c00 c10 c01 c11 c02 c12 c03 c13 c04 c14 c05 c15
    go_wp2
    go_region
    all_goals
      go_wp2
      rw [jump_ret]
      obtain ⟨HG, HW2, HB2⟩ := close6 (HF.out.box _ (.head _)).1 HF.out.bel HW.out (by have := HB.out; omega) (.int .u16 (f : Int)) (.int .u16 (t : Int)) (.int .u64 (c : Int)) (.int .u64 (o : Int)) (.int .u64 (k : Int)) (.slice ao2 0 cap2)
      clear HF HW
      generalize ((((((Wx.setCell ⟨w.heap.size, 0, none⟩ (.int .u16 (f : Int))).setCell ⟨w.heap.size, 1, none⟩ (.int .u16 (t : Int))).setCell ⟨w.heap.size, 2, none⟩ (.int .u64 (c : Int))).setCell ⟨w.heap.size, 3, none⟩ (.int .u64 (o : Int))).setCell ⟨w.heap.size, 4, none⟩ (.int .u64 (k : Int))).setCell ⟨w.heap.size, 5, none⟩ (.slice ao2 0 cap2)).drew = Wz at HG HW2 HB2 ⊢
      exact bodyPost_ret (results_cell_tmp2 rfl _ Wz w.heap.size 60 #[.int .u16 (f : Int), .int .u16 (t : Int), .int .u64 (c : Int), .int .u64 (o : Int), .int .u64 (k : Int), .slice ao2 0 cap2] (0, 0) _ rfl HG Try.underlying60 rfl infoReq) rfl ⟨_, _, rfl, by have e := HMm.out; rw [e] at HW2; exact owns_mono HW2 (by have := HB.out; omega), by simp, HB2⟩
  case pass =>
    rintro a W hf
    exact hf.elim
end Go.Proofs.Ytckfmpoddmccfaa
namespace Go.Proofs.Ytckfmpoddmccfaa
open Go.RowKit
set_option linter.unusedVariables false
set_option linter.unusedSimpArgs false
set_option maxRecDepth 100000
set_option maxHeartbeats 8000000 in
theorem decRequest1_plain (b off cap n : Nat) (l : List Nat) (most : Nat) (f t c o k : Nat) (w : World) (h : CRow w (some ⟨b, off, none⟩) cap l) (HN : Hid (l.length = n)) (hs : 32 ≤ n) (HX0 : Hid (valB ((l.drop 0).take 4) = mReq64)) (HX1 : Hid (valB ((l.drop 4).take 2) = f)) (HX2 : Hid (valB ((l.drop 6).take 2) = t)) (HX3 : Hid (valB ((l.drop 8).take 8) = c)) (HX4 : Hid (valB ((l.drop 16).take 8) = o)) (HX5 : Hid (valB ((l.drop 24).take 8) = k)) (hk64 : k < 18446744073709551616) (hm4 : most < 4294967296) (hpay : payB f t true = false) :
    Calls Try.prog 78 #[.slice (some ⟨b, off, none⟩) n cap, .int .u32 (most : Int), .bool true] w fun e w' => ∃ ao2 cap2, e = .returned (.tuple #[.agg #[.int .u16 (f : Int), .int .u16 (t : Int), .int .u64 (c : Int), .int .u64 (o : Int), .int .u64 (k : Int), .slice ao2 0 cap2], .int .i64 32, .int .i64 0]) ∧ Row w w' ao2 cap2 [] := by
  have HXs : Hid (∀ W : World, Calls Try.prog 91 #[.bool true] W fun e W' => e = .returned (.tuple #[.int .u32 (mReq64 : Nat), .int .i64 32]) ∧ W' = W) := fun W => by
    go_enter Try.func91, Try.ntmps91
    go_wp2
    go_ret2
    exact ⟨rfl, rfl⟩
  obtain ⟨m, hm⟩ : ∃ m : List Nat, m = [] := ⟨_, rfl⟩
  have hnl := h.row.len
  rw [HN.out] at hnl
  have hsl : 32 ≤ l.length := by rw [HN.out]; exact hs
  have HC : Hid (CRow w (some ⟨b, off, none⟩) cap l) := h
  obtain ⟨W0, hW0⟩ : ∃ W0, W0 = (((w.alloc (.cells #[.int .u16 0, .int .u16 0, .int .u64 0, .int .u64 0, .int .u64 0, nilV] 60)).alloc (.cells #[.int .u16 0, .int .u16 0, .int .u64 0, .int .u64 0, .int .u64 0, nilV] 60)).alloc (.cells #[.int .u16 0, .int .u16 0, .int .u64 0, .int .u64 0, .int .u64 0, nilV] 60)) := ⟨_, rfl⟩
  have HO : Hid (Calls Try.prog 99 #[.slice (some ⟨b, off, none⟩) n cap, .int .i64 32] W0 fun e W' => ∃ r hh ao' cap' a2 c2, e = .returned (.pointer (some ⟨r, 0, none⟩)) ∧ Dec w W' (bx3 w 60 #[.int .u16 0, .int .u16 0, .int .u64 0, .int .u64 0, .int .u64 0, nilV] #[.int .u16 0, .int .u16 0, .int .u64 0, .int .u64 0, .int .u64 0, nilV] #[.int .u16 0, .int .u16 0, .int .u64 0, .int .u64 0, .int .u64 0, nilV]) W0.heap.size r hh ao' cap' (l.take 32) 0 (.slice (some a2) (n - 32) c2) 0 32 0 ∧ n - 32 ≤ c2 ∧ c2 ≤ 9223372036854775807 ∧ (n - 32 ≠ 0 → a2 = ⟨b, off + 32, none⟩)) := by
    rw [hW0]; exact open_ok b off cap n 32 l (bx3_bel w _ _ _) (bx3_new w _ _ _ _) (bx3_nd w _ _ _ _) (h.later (bx3_bel w _ _ _)) HN hs (by decide) (by decide)
  clear h
  go_enter Try.func78, Try.ntmps78
  go_wp2
  refine wp_scope_jumps 0 (fun _ _ => False) (fun _ _ => 0) rfl ?first ?pass
  case first =>
    go_wp2_with fail
    refine (HXs.out _).mono ?_
    rintro e W9 ⟨rfl, hw9⟩
    rw [hw9]; clear hw9 HXs
    go_wp2_with fail
    rw [← hW0]
    clear hW0
    refine HO.out.mono ?_
    rintro e W1 ⟨r, hh, ao', cap', a2, c2, rfl, h1, hc1, hc2, ha2⟩
    have H1 : Hid _ := h1
    have HA : Hid _ := ha2
    clear h1 HO ha2
    go_wp2_with fail
    refine (magic32_ok H1.out (by rw [List.length_take]; omega) mReq64 (by rw [tk _ _ _ _ (by decide)]; exact HX0.out)).mono ?_
    rintro e W2 ⟨rfl, hx⟩
    have H2 : Hid _ := hx
    clear hx H1
    go_wp2_with fail
    refine (rx_u16 H2.out f HX1.out (by decide) hsl).mono ?_
    rintro e W3 ⟨rfl, hx⟩
    have H3 : Hid _ := hx
    clear hx H2
    go_wp2_with fail
    refine (rx_u16 H3.out t HX2.out (by decide) hsl).mono ?_
    rintro e W4 ⟨rfl, hx⟩
    have H4 : Hid _ := hx
    clear hx H3
    obtain ⟨s0, u0⟩ := H4.out.b (.tail _ (.tail _ (.head _))) 0
    simp at s0
    obtain ⟨s1, u1⟩ := H4.out.b (.tail _ (.tail _ (.head _))) 1
    simp at s1
    go_wp2_with fail
    replace H4 : Hid _ := H4.out.putS 0 (.int .u16 (f : Int)) #[.int .u16 (f : Int), .int .u16 0, .int .u64 0, .int .u64 0, .int .u64 0, nilV] rfl
    replace H4 : Hid _ := H4.out.putS 1 (.int .u16 (t : Int)) #[.int .u16 (f : Int), .int .u16 (t : Int), .int .u64 0, .int .u64 0, .int .u64 0, nilV] rfl
    refine (rx_u64 H4.out c HX3.out (by decide) hsl).mono ?_
    rintro e W5 ⟨rfl, hx⟩
    have H5 : Hid _ := hx
    clear hx H4 s0 u0 s1 u1
    go_wp2_with fail
    refine (rx_u64 H5.out o HX4.out (by decide) hsl).mono ?_
    rintro e W6 ⟨rfl, hx⟩
    have H6 : Hid _ := hx
    clear hx H5
    go_wp2_with fail
    refine (rx_number_wide H6.out k HX5.out (by decide) hsl).mono ?_
    rintro e W7 ⟨rfl, hx⟩
    have H7 : Hid _ := hx
    clear hx H6
    obtain ⟨s2, u2⟩ := H7.out.b (.tail _ (.tail _ (.head _))) 2
    simp at s2
    obtain ⟨s3, u3⟩ := H7.out.b (.tail _ (.tail _ (.head _))) 3
    simp at s3
    obtain ⟨s4, u4⟩ := H7.out.b (.tail _ (.tail _ (.head _))) 4
    simp at s4
    obtain ⟨s0, u0⟩ := H7.out.b (.tail _ (.tail _ (.head _))) 0
    simp at s0
    obtain ⟨s1, u1⟩ := H7.out.b (.tail _ (.tail _ (.head _))) 1
    simp at s1
    obtain ⟨s5, u5⟩ := H7.out.b (.tail _ (.tail _ (.head _))) 5
    simp at s5
    go_wp2_with fail
    replace H7 : Hid _ := H7.out.putS 2 (.int .u64 (c : Int)) #[.int .u16 (f : Int), .int .u16 (t : Int), .int .u64 (c : Int), .int .u64 0, .int .u64 0, nilV] rfl
    replace H7 : Hid _ := H7.out.putS 3 (.int .u64 (o : Int)) #[.int .u16 (f : Int), .int .u16 (t : Int), .int .u64 (c : Int), .int .u64 (o : Int), .int .u64 0, nilV] rfl
    replace H7 : Hid _ := H7.out.putS 4 (.int .u64 (k : Int)) #[.int .u16 (f : Int), .int .u16 (t : Int), .int .u64 (c : Int), .int .u64 (o : Int), .int .u64 (k : Int), nilV] rfl
    refine (pay_any f t c o k none 0 [] true _).mono ?_
    rintro e W8 ⟨rfl, hb9⟩
    have H8 : Hid _ := H7.out.later hb9
    clear hb9 H7 s2 u2 s3 u3 s4 u4 s0 u0 s1 u1 s5 u5
    rw [hpay]
    have hml : m.length = 0 := by rw [hm]; rfl
    have hmt : ∀ x ∈ m, x < 256 := by rw [hm]; simp
    have HDt : Hid _ := data_any (len := 0) H8.out m hml hmt (by rw [hm]; simp) (by omega) hc1 (by omega) hc2
    have HB : Hid (w.heap.size + 1 + 1 < W8.heap.size) := by show _ < _; have h1 := block_lt H8.out.rd; have h2 := H8.out.hr; have h3 : w.heap.size + 1 + 1 < _ := (H8.out.box _ (.tail _ (.tail _ (.head _)))).2.2; omega
    have HMm : Hid (m = []) := hm
    clear hm
    clear H8 HX0 HX1 HX2 HX3 HX4 HX5 HN HC hml hmt HA 
    go_wp2_with fail
    refine Calls.mono HDt.out ?_
    rintro e W9 ⟨ao2, cap2, rfl, ho, hb, h9⟩
    have H9 : Hid _ := h9
    have HR : Hid (W9.ownsRow W8.heap.size 5 1 (.slice ao2 0 cap2) 0 (m.map bv)) := ho
    clear h9 ho hb HDt
    obtain ⟨c10, f10⟩ := H9.out.b (.tail _ (.head _)) 0
    obtain ⟨c20, f20⟩ := H9.out.b (.tail _ (.tail _ (.head _))) 0
    obtain ⟨c11, f11⟩ := H9.out.b (.tail _ (.head _)) 1
    obtain ⟨c21, f21⟩ := H9.out.b (.tail _ (.tail _ (.head _))) 1
    obtain ⟨c12, f12⟩ := H9.out.b (.tail _ (.head _)) 2
    obtain ⟨c22, f22⟩ := H9.out.b (.tail _ (.tail _ (.head _))) 2
    obtain ⟨c13, f13⟩ := H9.out.b (.tail _ (.head _)) 3
    obtain ⟨c23, f23⟩ := H9.out.b (.tail _ (.tail _ (.head _))) 3
    obtain ⟨c14, f14⟩ := H9.out.b (.tail _ (.head _)) 4
    obtain ⟨c24, f24⟩ := H9.out.b (.tail _ (.tail _ (.head _))) 4
    obtain ⟨c15, f15⟩ := H9.out.b (.tail _ (.head _)) 5
    obtain ⟨c25, f25⟩ := H9.out.b (.tail _ (.tail _ (.head _))) 5
    simp at c10 c20 c11 c21 c12 c22 c13 c23 c14 c24 c15 c25
    go_wp2
    go_step3
    have HF : Hid _ := (((((((H9.out.putS 5 (.slice ao2 0 cap2) #[.int .u16 (f : Int), .int .u16 (t : Int), .int .u64 (c : Int), .int .u64 (o : Int), .int .u64 (k : Int), .slice ao2 0 cap2] rfl).putO 0 (.int .u16 (f : Int)) #[.int .u16 (f : Int), .int .u16 0, .int .u64 0, .int .u64 0, .int .u64 0, nilV] rfl).putO 1 (.int .u16 (t : Int)) #[.int .u16 (f : Int), .int .u16 (t : Int), .int .u64 0, .int .u64 0, .int .u64 0, nilV] rfl).putO 2 (.int .u64 (c : Int)) #[.int .u16 (f : Int), .int .u16 (t : Int), .int .u64 (c : Int), .int .u64 0, .int .u64 0, nilV] rfl).putO 3 (.int .u64 (o : Int)) #[.int .u16 (f : Int), .int .u16 (t : Int), .int .u64 (c : Int), .int .u64 (o : Int), .int .u64 0, nilV] rfl).putO 4 (.int .u64 (k : Int)) #[.int .u16 (f : Int), .int .u16 (t : Int), .int .u64 (c : Int), .int .u64 (o : Int), .int .u64 (k : Int), nilV] rfl).putO 5 (.slice ao2 0 cap2) #[.int .u16 (f : Int), .int .u16 (t : Int), .int .u64 (c : Int), .int .u64 (o : Int), .int .u64 (k : Int), .slice ao2 0 cap2] rfl)
    have HW : Hid (((((((((W9.setCell ⟨w.heap.size + 1 + 1, 5, none⟩ (.slice ao2 0 cap2)).setCell ⟨w.heap.size + 1, 0, none⟩ (.int .u16 (f : Int))).setCell ⟨w.heap.size + 1, 1, none⟩ (.int .u16 (t : Int))).setCell ⟨w.heap.size + 1, 2, none⟩ (.int .u64 (c : Int))).setCell ⟨w.heap.size + 1, 3, none⟩ (.int .u64 (o : Int))).setCell ⟨w.heap.size + 1, 4, none⟩ (.int .u64 (k : Int))).setCell ⟨w.heap.size + 1, 5, none⟩ (.slice ao2 0 cap2))).ownsRow W8.heap.size 5 1 (.slice ao2 0 cap2) 0 (m.map bv)) := setAll_owns [(w.heap.size + 1 + 1, 5, .slice ao2 0 cap2), (w.heap.size + 1, 0, .int .u16 (f : Int)), (w.heap.size + 1, 1, .int .u16 (t : Int)), (w.heap.size + 1, 2, .int .u64 (c : Int)), (w.heap.size + 1, 3, .int .u64 (o : Int)), (w.heap.size + 1, 4, .int .u64 (k : Int)), (w.heap.size + 1, 5, .slice ao2 0 cap2)] W9 HR.out (by have := HB.out; simp; omega)
    clear HR H9 c10 f10 c20 f20 c11 f11 c21 f21 c12 f12 c22 f22 c13 f13 c23 f23 c14 f14 c24 f24 c15 f15 c25 f25
    generalize (((((((W9.setCell ⟨w.heap.size + 1 + 1, 5, none⟩ (.slice ao2 0 cap2)).setCell ⟨w.heap.size + 1, 0, none⟩ (.int .u16 (f : Int))).setCell ⟨w.heap.size + 1, 1, none⟩ (.int .u16 (t : Int))).setCell ⟨w.heap.size + 1, 2, none⟩ (.int .u64 (c : Int))).setCell ⟨w.heap.size + 1, 3, none⟩ (.int .u64 (o : Int))).setCell ⟨w.heap.size + 1, 4, none⟩ (.int .u64 (k : Int))).setCell ⟨w.heap.size + 1, 5, none⟩ (.slice ao2 0 cap2)) = Wx at *
    have hn1 : ¬ (w.heap.size = r) := (HF.out.lb.box _ (.head _)).2.2
    have hn2 : ¬ (r = w.heap.size) := fun e => hn1 e.symm
    have r3 := HF.out.lb.cn
    have r4 := HF.out.lb.ce
    obtain ⟨c00, f00⟩ := HF.out.b (.head _) 0
    obtain ⟨c10, f10⟩ := HF.out.b (.tail _ (.head _)) 0
    obtain ⟨c01, f01⟩ := HF.out.b (.head _) 1
    obtain ⟨c11, f11⟩ := HF.out.b (.tail _ (.head _)) 1
    obtain ⟨c02, f02⟩ := HF.out.b (.head _) 2
    obtain ⟨c12, f12⟩ := HF.out.b (.tail _ (.head _)) 2
    obtain ⟨c03, f03⟩ := HF.out.b (.head _) 3
    obtain ⟨c13, f13⟩ := HF.out.b (.tail _ (.head _)) 3
    obtain ⟨c04, f04⟩ := HF.out.b (.head _) 4
    obtain ⟨c14, f14⟩ := HF.out.b (.tail _ (.head _)) 4
    obtain ⟨c05, f05⟩ := HF.out.b (.head _) 5
    obtain ⟨c15, f15⟩ := HF.out.b (.tail _ (.head _)) 5
    simp at c00 c10 c01 c11 c02 c12 c03 c13 c04 c14 c05 c15
    go_wp2
    go_region
    all_goals
      go_wp2
      rw [jump_ret]
      obtain ⟨HG, HW2, HB2⟩ := close6 (HF.out.box _ (.head _)).1 HF.out.bel HW.out (by have := HB.out; omega) (.int .u16 (f : Int)) (.int .u16 (t : Int)) (.int .u64 (c : Int)) (.int .u64 (o : Int)) (.int .u64 (k : Int)) (.slice ao2 0 cap2)
      clear HF HW
      generalize ((((((Wx.setCell ⟨w.heap.size, 0, none⟩ (.int .u16 (f : Int))).setCell ⟨w.heap.size, 1, none⟩ (.int .u16 (t : Int))).setCell ⟨w.heap.size, 2, none⟩ (.int .u64 (c : Int))).setCell ⟨w.heap.size, 3, none⟩ (.int .u64 (o : Int))).setCell ⟨w.heap.size, 4, none⟩ (.int .u64 (k : Int))).setCell ⟨w.heap.size, 5, none⟩ (.slice ao2 0 cap2)).drew = Wz at HG HW2 HB2 ⊢
      exact bodyPost_ret (results_cell_tmp2 rfl _ Wz w.heap.size 60 #[.int .u16 (f : Int), .int .u16 (t : Int), .int .u64 (c : Int), .int .u64 (o : Int), .int .u64 (k : Int), .slice ao2 0 cap2] (0, 0) _ rfl HG Try.underlying60 rfl infoReq) rfl ⟨_, _, rfl, by have e := HMm.out; rw [e] at HW2; exact owns_mono HW2 (by have := HB.out; omega), by simp, HB2⟩
  case pass =>
    rintro a W hf
    exact hf.elim
end Go.Proofs.Ytckfmpoddmccfaa
namespace Go.Proofs.Ytckfmpoddmccfaa
open Go.RowKit
set_option linter.unusedVariables false
set_option linter.unusedSimpArgs false
set_option maxRecDepth 100000
set_option maxHeartbeats 8000000 in
theorem decRequest0_long (b off cap n : Nat) (l : List Nat) (most : Nat) (f t c o k : Nat) (w : World) (h : CRow w (some ⟨b, off, none⟩) cap l) (HN : Hid (l.length = n)) (hs : 28 ≤ n) (HX0 : Hid (valB ((l.drop 0).take 4) = mReq)) (HX1 : Hid (valB ((l.drop 4).take 2) = f)) (HX2 : Hid (valB ((l.drop 6).take 2) = t)) (HX3 : Hid (valB ((l.drop 8).take 8) = c)) (HX4 : Hid (valB ((l.drop 16).take 8) = o)) (HX5 : Hid (valB ((l.drop 24).take 4) = k)) (hk64 : k < 18446744073709551616) (hm4 : most < 4294967296) (hpay : payB f t false = true) (hlong : most < k) :
    Calls Try.prog 78 #[.slice (some ⟨b, off, none⟩) n cap, .int .u32 (most : Int), .bool false] w fun e w' => ∃ ao2 cap2, e = .returned (.tuple #[.agg #[.int .u16 (f : Int), .int .u16 (t : Int), .int .u64 (c : Int), .int .u64 (o : Int), .int .u64 (k : Int), .slice ao2 0 cap2], .int .i64 28, .int .i64 12]) ∧ Row w w' ao2 cap2 [] := by
  have HXs : Hid (∀ W : World, Calls Try.prog 91 #[.bool false] W fun e W' => e = .returned (.tuple #[.int .u32 (mReq : Nat), .int .i64 28]) ∧ W' = W) := fun W => by
    go_enter Try.func91, Try.ntmps91
    go_wp2
    go_ret2
    exact ⟨rfl, rfl⟩
  obtain ⟨m, hm⟩ : ∃ m : List Nat, m = [] := ⟨_, rfl⟩
  have hnl := h.row.len
  rw [HN.out] at hnl
  have hsl : 28 ≤ l.length := by rw [HN.out]; exact hs
  have HC : Hid (CRow w (some ⟨b, off, none⟩) cap l) := h
  obtain ⟨W0, hW0⟩ : ∃ W0, W0 = (((w.alloc (.cells #[.int .u16 0, .int .u16 0, .int .u64 0, .int .u64 0, .int .u64 0, nilV] 60)).alloc (.cells #[.int .u16 0, .int .u16 0, .int .u64 0, .int .u64 0, .int .u64 0, nilV] 60)).alloc (.cells #[.int .u16 0, .int .u16 0, .int .u64 0, .int .u64 0, .int .u64 0, nilV] 60)) := ⟨_, rfl⟩
  have HO : Hid (Calls Try.prog 99 #[.slice (some ⟨b, off, none⟩) n cap, .int .i64 28] W0 fun e W' => ∃ r hh ao' cap' a2 c2, e = .returned (.pointer (some ⟨r, 0, none⟩)) ∧ Dec w W' (bx3 w 60 #[.int .u16 0, .int .u16 0, .int .u64 0, .int .u64 0, .int .u64 0, nilV] #[.int .u16 0, .int .u16 0, .int .u64 0, .int .u64 0, .int .u64 0, nilV] #[.int .u16 0, .int .u16 0, .int .u64 0, .int .u64 0, .int .u64 0, nilV]) W0.heap.size r hh ao' cap' (l.take 28) 0 (.slice (some a2) (n - 28) c2) 0 28 0 ∧ n - 28 ≤ c2 ∧ c2 ≤ 9223372036854775807 ∧ (n - 28 ≠ 0 → a2 = ⟨b, off + 28, none⟩)) := by
    rw [hW0]; exact open_ok b off cap n 28 l (bx3_bel w _ _ _) (bx3_new w _ _ _ _) (bx3_nd w _ _ _ _) (h.later (bx3_bel w _ _ _)) HN hs (by decide) (by decide)
  clear h
  go_enter Try.func78, Try.ntmps78
  go_wp2
  refine wp_scope_jumps 0 (fun _ _ => False) (fun _ _ => 0) rfl ?first ?pass
  case first =>
    go_wp2_with fail
    refine (HXs.out _).mono ?_
    rintro e W9 ⟨rfl, hw9⟩
    rw [hw9]; clear hw9 HXs
    go_wp2_with fail
    rw [← hW0]
    clear hW0
    refine HO.out.mono ?_
    rintro e W1 ⟨r, hh, ao', cap', a2, c2, rfl, h1, hc1, hc2, ha2⟩
    have H1 : Hid _ := h1
    have HA : Hid _ := ha2
    clear h1 HO ha2
    go_wp2_with fail
    refine (magic32_ok H1.out (by rw [List.length_take]; omega) mReq (by rw [tk _ _ _ _ (by decide)]; exact HX0.out)).mono ?_
    rintro e W2 ⟨rfl, hx⟩
    have H2 : Hid _ := hx
    clear hx H1
    go_wp2_with fail
    refine (rx_u16 H2.out f HX1.out (by decide) hsl).mono ?_
    rintro e W3 ⟨rfl, hx⟩
    have H3 : Hid _ := hx
    clear hx H2
    go_wp2_with fail
    refine (rx_u16 H3.out t HX2.out (by decide) hsl).mono ?_
    rintro e W4 ⟨rfl, hx⟩
    have H4 : Hid _ := hx
    clear hx H3
    obtain ⟨s0, u0⟩ := H4.out.b (.tail _ (.tail _ (.head _))) 0
    simp at s0
    obtain ⟨s1, u1⟩ := H4.out.b (.tail _ (.tail _ (.head _))) 1
    simp at s1
    go_wp2_with fail
    replace H4 : Hid _ := H4.out.putS 0 (.int .u16 (f : Int)) #[.int .u16 (f : Int), .int .u16 0, .int .u64 0, .int .u64 0, .int .u64 0, nilV] rfl
    replace H4 : Hid _ := H4.out.putS 1 (.int .u16 (t : Int)) #[.int .u16 (f : Int), .int .u16 (t : Int), .int .u64 0, .int .u64 0, .int .u64 0, nilV] rfl
    refine (rx_u64 H4.out c HX3.out (by decide) hsl).mono ?_
    rintro e W5 ⟨rfl, hx⟩
    have H5 : Hid _ := hx
    clear hx H4 s0 u0 s1 u1
    go_wp2_with fail
    refine (rx_u64 H5.out o HX4.out (by decide) hsl).mono ?_
    rintro e W6 ⟨rfl, hx⟩
    have H6 : Hid _ := hx
    clear hx H5
    go_wp2_with fail
    refine (rx_number_plain H6.out k HX5.out (by decide) hsl).mono ?_
    rintro e W7 ⟨rfl, hx⟩
    have H7 : Hid _ := hx
    clear hx H6
    obtain ⟨s2, u2⟩ := H7.out.b (.tail _ (.tail _ (.head _))) 2
    simp at s2
    obtain ⟨s3, u3⟩ := H7.out.b (.tail _ (.tail _ (.head _))) 3
    simp at s3
    obtain ⟨s4, u4⟩ := H7.out.b (.tail _ (.tail _ (.head _))) 4
    simp at s4
    obtain ⟨s0, u0⟩ := H7.out.b (.tail _ (.tail _ (.head _))) 0
    simp at s0
    obtain ⟨s1, u1⟩ := H7.out.b (.tail _ (.tail _ (.head _))) 1
    simp at s1
    obtain ⟨s5, u5⟩ := H7.out.b (.tail _ (.tail _ (.head _))) 5
    simp at s5
    go_wp2_with fail
    replace H7 : Hid _ := H7.out.putS 2 (.int .u64 (c : Int)) #[.int .u16 (f : Int), .int .u16 (t : Int), .int .u64 (c : Int), .int .u64 0, .int .u64 0, nilV] rfl
    replace H7 : Hid _ := H7.out.putS 3 (.int .u64 (o : Int)) #[.int .u16 (f : Int), .int .u16 (t : Int), .int .u64 (c : Int), .int .u64 (o : Int), .int .u64 0, nilV] rfl
    replace H7 : Hid _ := H7.out.putS 4 (.int .u64 (k : Int)) #[.int .u16 (f : Int), .int .u16 (t : Int), .int .u64 (c : Int), .int .u64 (o : Int), .int .u64 (k : Int), nilV] rfl
    refine (pay_any f t c o k none 0 [] false _).mono ?_
    rintro e W8 ⟨rfl, hb9⟩
    have H8 : Hid _ := H7.out.later hb9
    clear hb9 H7 s2 u2 s3 u3 s4 u4 s0 u0 s1 u1 s5 u5
    rw [hpay]
    obtain ⟨s4, u4⟩ := H8.out.b (.tail _ (.tail _ (.head _))) 4
    simp at s4
    go_wp2_with fail
    refine (measure_long H8.out k most hm4 hlong hk64).mono ?_
    rintro e W9 ⟨rfl, hx⟩
    have H9 : Hid _ := hx
    clear hx H8 s4 u4
    have hml : m.length = 0 := by rw [hm]; rfl
    have hmt : ∀ x ∈ m, x < 256 := by rw [hm]; simp
    have HDt : Hid _ := data_any (len := 0) H9.out m hml hmt (by rw [hm]; simp) (by omega) hc1 (by omega) hc2
    have HB : Hid (w.heap.size + 1 + 1 < W9.heap.size) := by show _ < _; have h1 := block_lt H9.out.rd; have h2 := H9.out.hr; have h3 : w.heap.size + 1 + 1 < _ := (H9.out.box _ (.tail _ (.tail _ (.head _)))).2.2; omega
    have HMm : Hid (m = []) := hm
    clear hm
    clear H9 HX0 HX1 HX2 HX3 HX4 HX5 HN HC hml hmt HA 
    go_wp2_with fail
    refine Calls.mono HDt.out ?_
    rintro e W10 ⟨ao2, cap2, rfl, ho, hb, h9⟩
    have H10 : Hid _ := h9
    have HR : Hid (W10.ownsRow W9.heap.size 5 1 (.slice ao2 0 cap2) 0 (m.map bv)) := ho
    clear h9 ho hb HDt
    obtain ⟨c10, f10⟩ := H10.out.b (.tail _ (.head _)) 0
    obtain ⟨c20, f20⟩ := H10.out.b (.tail _ (.tail _ (.head _))) 0
    obtain ⟨c11, f11⟩ := H10.out.b (.tail _ (.head _)) 1
    obtain ⟨c21, f21⟩ := H10.out.b (.tail _ (.tail _ (.head _))) 1
    obtain ⟨c12, f12⟩ := H10.out.b (.tail _ (.head _)) 2
    obtain ⟨c22, f22⟩ := H10.out.b (.tail _ (.tail _ (.head _))) 2
    obtain ⟨c13, f13⟩ := H10.out.b (.tail _ (.head _)) 3
    obtain ⟨c23, f23⟩ := H10.out.b (.tail _ (.tail _ (.head _))) 3
    obtain ⟨c14, f14⟩ := H10.out.b (.tail _ (.head _)) 4
    obtain ⟨c24, f24⟩ := H10.out.b (.tail _ (.tail _ (.head _))) 4
    obtain ⟨c15, f15⟩ := H10.out.b (.tail _ (.head _)) 5
    obtain ⟨c25, f25⟩ := H10.out.b (.tail _ (.tail _ (.head _))) 5
    simp at c10 c20 c11 c21 c12 c22 c13 c23 c14 c24 c15 c25
    go_wp2
    go_step3
    have HF : Hid _ := (((((((H10.out.putS 5 (.slice ao2 0 cap2) #[.int .u16 (f : Int), .int .u16 (t : Int), .int .u64 (c : Int), .int .u64 (o : Int), .int .u64 (k : Int), .slice ao2 0 cap2] rfl).putO 0 (.int .u16 (f : Int)) #[.int .u16 (f : Int), .int .u16 0, .int .u64 0, .int .u64 0, .int .u64 0, nilV] rfl).putO 1 (.int .u16 (t : Int)) #[.int .u16 (f : Int), .int .u16 (t : Int), .int .u64 0, .int .u64 0, .int .u64 0, nilV] rfl).putO 2 (.int .u64 (c : Int)) #[.int .u16 (f : Int), .int .u16 (t : Int), .int .u64 (c : Int), .int .u64 0, .int .u64 0, nilV] rfl).putO 3 (.int .u64 (o : Int)) #[.int .u16 (f : Int), .int .u16 (t : Int), .int .u64 (c : Int), .int .u64 (o : Int), .int .u64 0, nilV] rfl).putO 4 (.int .u64 (k : Int)) #[.int .u16 (f : Int), .int .u16 (t : Int), .int .u64 (c : Int), .int .u64 (o : Int), .int .u64 (k : Int), nilV] rfl).putO 5 (.slice ao2 0 cap2) #[.int .u16 (f : Int), .int .u16 (t : Int), .int .u64 (c : Int), .int .u64 (o : Int), .int .u64 (k : Int), .slice ao2 0 cap2] rfl)
    have HW : Hid (((((((((W10.setCell ⟨w.heap.size + 1 + 1, 5, none⟩ (.slice ao2 0 cap2)).setCell ⟨w.heap.size + 1, 0, none⟩ (.int .u16 (f : Int))).setCell ⟨w.heap.size + 1, 1, none⟩ (.int .u16 (t : Int))).setCell ⟨w.heap.size + 1, 2, none⟩ (.int .u64 (c : Int))).setCell ⟨w.heap.size + 1, 3, none⟩ (.int .u64 (o : Int))).setCell ⟨w.heap.size + 1, 4, none⟩ (.int .u64 (k : Int))).setCell ⟨w.heap.size + 1, 5, none⟩ (.slice ao2 0 cap2))).ownsRow W9.heap.size 5 1 (.slice ao2 0 cap2) 0 (m.map bv)) := setAll_owns [(w.heap.size + 1 + 1, 5, .slice ao2 0 cap2), (w.heap.size + 1, 0, .int .u16 (f : Int)), (w.heap.size + 1, 1, .int .u16 (t : Int)), (w.heap.size + 1, 2, .int .u64 (c : Int)), (w.heap.size + 1, 3, .int .u64 (o : Int)), (w.heap.size + 1, 4, .int .u64 (k : Int)), (w.heap.size + 1, 5, .slice ao2 0 cap2)] W10 HR.out (by have := HB.out; simp; omega)
    clear HR H10 c10 f10 c20 f20 c11 f11 c21 f21 c12 f12 c22 f22 c13 f13 c23 f23 c14 f14 c24 f24 c15 f15 c25 f25
    generalize (((((((W10.setCell ⟨w.heap.size + 1 + 1, 5, none⟩ (.slice ao2 0 cap2)).setCell ⟨w.heap.size + 1, 0, none⟩ (.int .u16 (f : Int))).setCell ⟨w.heap.size + 1, 1, none⟩ (.int .u16 (t : Int))).setCell ⟨w.heap.size + 1, 2, none⟩ (.int .u64 (c : Int))).setCell ⟨w.heap.size + 1, 3, none⟩ (.int .u64 (o : Int))).setCell ⟨w.heap.size + 1, 4, none⟩ (.int .u64 (k : Int))).setCell ⟨w.heap.size + 1, 5, none⟩ (.slice ao2 0 cap2)) = Wx at *
    have hn1 : ¬ (w.heap.size = r) := (HF.out.lb.box _ (.head _)).2.2
    have hn2 : ¬ (r = w.heap.size) := fun e => hn1 e.symm
    have r3 := HF.out.lb.cn
    have r4 := HF.out.lb.ce
    obtain ⟨c00, f00⟩ := HF.out.b (.head _) 0
    obtain ⟨c10, f10⟩ := HF.out.b (.tail _ (.head _)) 0
    obtain ⟨c01, f01⟩ := HF.out.b (.head _) 1
    obtain ⟨c11, f11⟩ := HF.out.b (.tail _ (.head _)) 1
    obtain ⟨c02, f02⟩ := HF.out.b (.head _) 2
    obtain ⟨c12, f12⟩ := HF.out.b (.tail _ (.head _)) 2
    obtain ⟨c03, f03⟩ := HF.out.b (.head _) 3
    obtain ⟨c13, f13⟩ := HF.out.b (.tail _ (.head _)) 3
    obtain ⟨c04, f04⟩ := HF.out.b (.head _) 4
    obtain ⟨c14, f14⟩ := HF.out.b (.tail _ (.head _)) 4
    obtain ⟨c05, f05⟩ := HF.out.b (.head _) 5
    obtain ⟨c15, f15⟩ := HF.out.b (.tail _ (.head _)) 5
    simp at c00 c10 c01 c11 c02 c12 c03 c13 c04 c14 c05 c15
    go_wp2
    go_region
    all_goals
      go_wp2
      rw [jump_ret]
      obtain ⟨HG, HW2, HB2⟩ := close6 (HF.out.box _ (.head _)).1 HF.out.bel HW.out (by have := HB.out; omega) (.int .u16 (f : Int)) (.int .u16 (t : Int)) (.int .u64 (c : Int)) (.int .u64 (o : Int)) (.int .u64 (k : Int)) (.slice ao2 0 cap2)
      clear HF HW
      generalize ((((((Wx.setCell ⟨w.heap.size, 0, none⟩ (.int .u16 (f : Int))).setCell ⟨w.heap.size, 1, none⟩ (.int .u16 (t : Int))).setCell ⟨w.heap.size, 2, none⟩ (.int .u64 (c : Int))).setCell ⟨w.heap.size, 3, none⟩ (.int .u64 (o : Int))).setCell ⟨w.heap.size, 4, none⟩ (.int .u64 (k : Int))).setCell ⟨w.heap.size, 5, none⟩ (.slice ao2 0 cap2)).drew = Wz at HG HW2 HB2 ⊢
      exact bodyPost_ret (results_cell_tmp2 rfl _ Wz w.heap.size 60 #[.int .u16 (f : Int), .int .u16 (t : Int), .int .u64 (c : Int), .int .u64 (o : Int), .int .u64 (k : Int), .slice ao2 0 cap2] (0, 0) _ rfl HG Try.underlying60 rfl infoReq) rfl ⟨_, _, rfl, by have e := HMm.out; rw [e] at HW2; exact owns_mono HW2 (by have := HB.out; omega), by simp, HB2⟩
  case pass =>
    rintro a W hf
    exact hf.elim
end Go.Proofs.Ytckfmpoddmccfaa
namespace Go.Proofs.Ytckfmpoddmccfaa
open Go.RowKit
set_option linter.unusedVariables false
set_option linter.unusedSimpArgs false
set_option maxRecDepth 100000
set_option maxHeartbeats 8000000 in
theorem decRequest1_long (b off cap n : Nat) (l : List Nat) (most : Nat) (f t c o k : Nat) (w : World) (h : CRow w (some ⟨b, off, none⟩) cap l) (HN : Hid (l.length = n)) (hs : 32 ≤ n) (HX0 : Hid (valB ((l.drop 0).take 4) = mReq64)) (HX1 : Hid (valB ((l.drop 4).take 2) = f)) (HX2 : Hid (valB ((l.drop 6).take 2) = t)) (HX3 : Hid (valB ((l.drop 8).take 8) = c)) (HX4 : Hid (valB ((l.drop 16).take 8) = o)) (HX5 : Hid (valB ((l.drop 24).take 8) = k)) (hk64 : k < 18446744073709551616) (hm4 : most < 4294967296) (hpay : payB f t true = true) (hlong : most < k) :
    Calls Try.prog 78 #[.slice (some ⟨b, off, none⟩) n cap, .int .u32 (most : Int), .bool true] w fun e w' => ∃ ao2 cap2, e = .returned (.tuple #[.agg #[.int .u16 (f : Int), .int .u16 (t : Int), .int .u64 (c : Int), .int .u64 (o : Int), .int .u64 (k : Int), .slice ao2 0 cap2], .int .i64 32, .int .i64 12]) ∧ Row w w' ao2 cap2 [] := by
  have HXs : Hid (∀ W : World, Calls Try.prog 91 #[.bool true] W fun e W' => e = .returned (.tuple #[.int .u32 (mReq64 : Nat), .int .i64 32]) ∧ W' = W) := fun W => by
    go_enter Try.func91, Try.ntmps91
    go_wp2
    go_ret2
    exact ⟨rfl, rfl⟩
  obtain ⟨m, hm⟩ : ∃ m : List Nat, m = [] := ⟨_, rfl⟩
  have hnl := h.row.len
  rw [HN.out] at hnl
  have hsl : 32 ≤ l.length := by rw [HN.out]; exact hs
  have HC : Hid (CRow w (some ⟨b, off, none⟩) cap l) := h
  obtain ⟨W0, hW0⟩ : ∃ W0, W0 = (((w.alloc (.cells #[.int .u16 0, .int .u16 0, .int .u64 0, .int .u64 0, .int .u64 0, nilV] 60)).alloc (.cells #[.int .u16 0, .int .u16 0, .int .u64 0, .int .u64 0, .int .u64 0, nilV] 60)).alloc (.cells #[.int .u16 0, .int .u16 0, .int .u64 0, .int .u64 0, .int .u64 0, nilV] 60)) := ⟨_, rfl⟩
  have HO : Hid (Calls Try.prog 99 #[.slice (some ⟨b, off, none⟩) n cap, .int .i64 32] W0 fun e W' => ∃ r hh ao' cap' a2 c2, e = .returned (.pointer (some ⟨r, 0, none⟩)) ∧ Dec w W' (bx3 w 60 #[.int .u16 0, .int .u16 0, .int .u64 0, .int .u64 0, .int .u64 0, nilV] #[.int .u16 0, .int .u16 0, .int .u64 0, .int .u64 0, .int .u64 0, nilV] #[.int .u16 0, .int .u16 0, .int .u64 0, .int .u64 0, .int .u64 0, nilV]) W0.heap.size r hh ao' cap' (l.take 32) 0 (.slice (some a2) (n - 32) c2) 0 32 0 ∧ n - 32 ≤ c2 ∧ c2 ≤ 9223372036854775807 ∧ (n - 32 ≠ 0 → a2 = ⟨b, off + 32, none⟩)) := by
    rw [hW0]; exact open_ok b off cap n 32 l (bx3_bel w _ _ _) (bx3_new w _ _ _ _) (bx3_nd w _ _ _ _) (h.later (bx3_bel w _ _ _)) HN hs (by decide) (by decide)
  clear h
  go_enter Try.func78, Try.ntmps78
  go_wp2
  refine wp_scope_jumps 0 (fun _ _ => False) (fun _ _ => 0) rfl ?first ?pass
  case first =>
    go_wp2_with fail
    refine (HXs.out _).mono ?_
    rintro e W9 ⟨rfl, hw9⟩
    rw [hw9]; clear hw9 HXs
    go_wp2_with fail
    rw [← hW0]
    clear hW0
    refine HO.out.mono ?_
    rintro e W1 ⟨r, hh, ao', cap', a2, c2, rfl, h1, hc1, hc2, ha2⟩
    have H1 : Hid _ := h1
    have HA : Hid _ := ha2
    clear h1 HO ha2
    go_wp2_with fail
    refine (magic32_ok H1.out (by rw [List.length_take]; omega) mReq64 (by rw [tk _ _ _ _ (by decide)]; exact HX0.out)).mono ?_
    rintro e W2 ⟨rfl, hx⟩
    have H2 : Hid _ := hx
    clear hx H1
    go_wp2_with fail
    refine (rx_u16 H2.out f HX1.out (by decide) hsl).mono ?_
    rintro e W3 ⟨rfl, hx⟩
    have H3 : Hid _ := hx
    clear hx H2
    go_wp2_with fail
    refine (rx_u16 H3.out t HX2.out (by decide) hsl).mono ?_
    rintro e W4 ⟨rfl, hx⟩
    have H4 : Hid _ := hx
    clear hx H3
    obtain ⟨s0, u0⟩ := H4.out.b (.tail _ (.tail _ (.head _))) 0
    simp at s0
    obtain ⟨s1, u1⟩ := H4.out.b (.tail _ (.tail _ (.head _))) 1
    simp at s1
    go_wp2_with fail
    replace H4 : Hid _ := H4.out.putS 0 (.int .u16 (f : Int)) #[.int .u16 (f : Int), .int .u16 0, .int .u64 0, .int .u64 0, .int .u64 0, nilV] rfl
    replace H4 : Hid _ := H4.out.putS 1 (.int .u16 (t : Int)) #[.int .u16 (f : Int), .int .u16 (t : Int), .int .u64 0, .int .u64 0, .int .u64 0, nilV] rfl
    refine (rx_u64 H4.out c HX3.out (by decide) hsl).mono ?_
    rintro e W5 ⟨rfl, hx⟩
    have H5 : Hid _ := hx
    clear hx H4 s0 u0 s1 u1
    go_wp2_with fail
    refine (rx_u64 H5.out o HX4.out (by decide) hsl).mono ?_
    rintro e W6 ⟨rfl, hx⟩
    have H6 : Hid _ := hx
    clear hx H5
    go_wp2_with fail
    refine (rx_number_wide H6.out k HX5.out (by decide) hsl).mono ?_
    rintro e W7 ⟨rfl, hx⟩
    have H7 : Hid _ := hx
    clear hx H6
    obtain ⟨s2, u2⟩ := H7.out.b (.tail _ (.tail _ (.head _))) 2
    simp at s2
    obtain ⟨s3, u3⟩ := H7.out.b (.tail _ (.tail _ (.head _))) 3
    simp at s3
    obtain ⟨s4, u4⟩ := H7.out.b (.tail _ (.tail _ (.head _))) 4
    simp at s4
    obtain ⟨s0, u0⟩ := H7.out.b (.tail _ (.tail _ (.head _))) 0
    simp at s0
    obtain ⟨s1, u1⟩ := H7.out.b (.tail _ (.tail _ (.head _))) 1
    simp at s1
    obtain ⟨s5, u5⟩ := H7.out.b (.tail _ (.tail _ (.head _))) 5
    simp at s5
    go_wp2_with fail
    replace H7 : Hid _ := H7.out.putS 2 (.int .u64 (c : Int)) #[.int .u16 (f : Int), .int .u16 (t : Int), .int .u64 (c : Int), .int .u64 0, .int .u64 0, nilV] rfl
    replace H7 : Hid _ := H7.out.putS 3 (.int .u64 (o : Int)) #[.int .u16 (f : Int), .int .u16 (t : Int), .int .u64 (c : Int), .int .u64 (o : Int), .int .u64 0, nilV] rfl
    replace H7 : Hid _ := H7.out.putS 4 (.int .u64 (k : Int)) #[.int .u16 (f : Int), .int .u16 (t : Int), .int .u64 (c : Int), .int .u64 (o : Int), .int .u64 (k : Int), nilV] rfl
    refine (pay_any f t c o k none 0 [] true _).mono ?_
    rintro e W8 ⟨rfl, hb9⟩
    have H8 : Hid _ := H7.out.later hb9
    clear hb9 H7 s2 u2 s3 u3 s4 u4 s0 u0 s1 u1 s5 u5
    rw [hpay]
    obtain ⟨s4, u4⟩ := H8.out.b (.tail _ (.tail _ (.head _))) 4
    simp at s4
    go_wp2_with fail
    refine (measure_long H8.out k most hm4 hlong hk64).mono ?_
    rintro e W9 ⟨rfl, hx⟩
    have H9 : Hid _ := hx
    clear hx H8 s4 u4
    have hml : m.length = 0 := by rw [hm]; rfl
    have hmt : ∀ x ∈ m, x < 256 := by rw [hm]; simp
    have HDt : Hid _ := data_any (len := 0) H9.out m hml hmt (by rw [hm]; simp) (by omega) hc1 (by omega) hc2
    have HB : Hid (w.heap.size + 1 + 1 < W9.heap.size) := by show _ < _; have h1 := block_lt H9.out.rd; have h2 := H9.out.hr; have h3 : w.heap.size + 1 + 1 < _ := (H9.out.box _ (.tail _ (.tail _ (.head _)))).2.2; omega
    have HMm : Hid (m = []) := hm
    clear hm
    clear H9 HX0 HX1 HX2 HX3 HX4 HX5 HN HC hml hmt HA 
    go_wp2_with fail
    refine Calls.mono HDt.out ?_
    rintro e W10 ⟨ao2, cap2, rfl, ho, hb, h9⟩
    have H10 : Hid _ := h9
    have HR : Hid (W10.ownsRow W9.heap.size 5 1 (.slice ao2 0 cap2) 0 (m.map bv)) := ho
    clear h9 ho hb HDt
    obtain ⟨c10, f10⟩ := H10.out.b (.tail _ (.head _)) 0
    obtain ⟨c20, f20⟩ := H10.out.b (.tail _ (.tail _ (.head _))) 0
    obtain ⟨c11, f11⟩ := H10.out.b (.tail _ (.head _)) 1
    obtain ⟨c21, f21⟩ := H10.out.b (.tail _ (.tail _ (.head _))) 1
    obtain ⟨c12, f12⟩ := H10.out.b (.tail _ (.head _)) 2
    obtain ⟨c22, f22⟩ := H10.out.b (.tail _ (.tail _ (.head _))) 2
    obtain ⟨c13, f13⟩ := H10.out.b (.tail _ (.head _)) 3
    obtain ⟨c23, f23⟩ := H10.out.b (.tail _ (.tail _ (.head _))) 3
    obtain ⟨c14, f14⟩ := H10.out.b (.tail _ (.head _)) 4
    obtain ⟨c24, f24⟩ := H10.out.b (.tail _ (.tail _ (.head _))) 4
    obtain ⟨c15, f15⟩ := H10.out.b (.tail _ (.head _)) 5
    obtain ⟨c25, f25⟩ := H10.out.b (.tail _ (.tail _ (.head _))) 5
    simp at c10 c20 c11 c21 c12 c22 c13 c23 c14 c24 c15 c25
    go_wp2
    go_step3
    have HF : Hid _ := (((((((H10.out.putS 5 (.slice ao2 0 cap2) #[.int .u16 (f : Int), .int .u16 (t : Int), .int .u64 (c : Int), .int .u64 (o : Int), .int .u64 (k : Int), .slice ao2 0 cap2] rfl).putO 0 (.int .u16 (f : Int)) #[.int .u16 (f : Int), .int .u16 0, .int .u64 0, .int .u64 0, .int .u64 0, nilV] rfl).putO 1 (.int .u16 (t : Int)) #[.int .u16 (f : Int), .int .u16 (t : Int), .int .u64 0, .int .u64 0, .int .u64 0, nilV] rfl).putO 2 (.int .u64 (c : Int)) #[.int .u16 (f : Int), .int .u16 (t : Int), .int .u64 (c : Int), .int .u64 0, .int .u64 0, nilV] rfl).putO 3 (.int .u64 (o : Int)) #[.int .u16 (f : Int), .int .u16 (t : Int), .int .u64 (c : Int), .int .u64 (o : Int), .int .u64 0, nilV] rfl).putO 4 (.int .u64 (k : Int)) #[.int .u16 (f : Int), .int .u16 (t : Int), .int .u64 (c : Int), .int .u64 (o : Int), .int .u64 (k : Int), nilV] rfl).putO 5 (.slice ao2 0 cap2) #[.int .u16 (f : Int), .int .u16 (t : Int), .int .u64 (c : Int), .int .u64 (o : Int), .int .u64 (k : Int), .slice ao2 0 cap2] rfl)
    have HW : Hid (((((((((W10.setCell ⟨w.heap.size + 1 + 1, 5, none⟩ (.slice ao2 0 cap2)).setCell ⟨w.heap.size + 1, 0, none⟩ (.int .u16 (f : Int))).setCell ⟨w.heap.size + 1, 1, none⟩ (.int .u16 (t : Int))).setCell ⟨w.heap.size + 1, 2, none⟩ (.int .u64 (c : Int))).setCell ⟨w.heap.size + 1, 3, none⟩ (.int .u64 (o : Int))).setCell ⟨w.heap.size + 1, 4, none⟩ (.int .u64 (k : Int))).setCell ⟨w.heap.size + 1, 5, none⟩ (.slice ao2 0 cap2))).ownsRow W9.heap.size 5 1 (.slice ao2 0 cap2) 0 (m.map bv)) := setAll_owns [(w.heap.size + 1 + 1, 5, .slice ao2 0 cap2), (w.heap.size + 1, 0, .int .u16 (f : Int)), (w.heap.size + 1, 1, .int .u16 (t : Int)), (w.heap.size + 1, 2, .int .u64 (c : Int)), (w.heap.size + 1, 3, .int .u64 (o : Int)), (w.heap.size + 1, 4, .int .u64 (k : Int)), (w.heap.size + 1, 5, .slice ao2 0 cap2)] W10 HR.out (by have := HB.out; simp; omega)
    clear HR H10 c10 f10 c20 f20 c11 f11 c21 f21 c12 f12 c22 f22 c13 f13 c23 f23 c14 f14 c24 f24 c15 f15 c25 f25
    generalize (((((((W10.setCell ⟨w.heap.size + 1 + 1, 5, none⟩ (.slice ao2 0 cap2)).setCell ⟨w.heap.size + 1, 0, none⟩ (.int .u16 (f : Int))).setCell ⟨w.heap.size + 1, 1, none⟩ (.int .u16 (t : Int))).setCell ⟨w.heap.size + 1, 2, none⟩ (.int .u64 (c : Int))).setCell ⟨w.heap.size + 1, 3, none⟩ (.int .u64 (o : Int))).setCell ⟨w.heap.size + 1, 4, none⟩ (.int .u64 (k : Int))).setCell ⟨w.heap.size + 1, 5, none⟩ (.slice ao2 0 cap2)) = Wx at *
    have hn1 : ¬ (w.heap.size = r) := (HF.out.lb.box _ (.head _)).2.2
    have hn2 : ¬ (r = w.heap.size) := fun e => hn1 e.symm
    have r3 := HF.out.lb.cn
    have r4 := HF.out.lb.ce
    obtain ⟨c00, f00⟩ := HF.out.b (.head _) 0
    obtain ⟨c10, f10⟩ := HF.out.b (.tail _ (.head _)) 0
    obtain ⟨c01, f01⟩ := HF.out.b (.head _) 1
    obtain ⟨c11, f11⟩ := HF.out.b (.tail _ (.head _)) 1
    obtain ⟨c02, f02⟩ := HF.out.b (.head _) 2
    obtain ⟨c12, f12⟩ := HF.out.b (.tail _ (.head _)) 2
    obtain ⟨c03, f03⟩ := HF.out.b (.head _) 3
    obtain ⟨c13, f13⟩ := HF.out.b (.tail _ (.head _)) 3
    obtain ⟨c04, f04⟩ := HF.out.b (.head _) 4
    obtain ⟨c14, f14⟩ := HF.out.b (.tail _ (.head _)) 4
    obtain ⟨c05, f05⟩ := HF.out.b (.head _) 5
    obtain ⟨c15, f15⟩ := HF.out.b (.tail _ (.head _)) 5
    simp at c00 c10 c01 c11 c02 c12 c03 c13 c04 c14 c05 c15
    go_wp2
    go_region
    all_goals
      go_wp2
      rw [jump_ret]
      obtain ⟨HG, HW2, HB2⟩ := close6 (HF.out.box _ (.head _)).1 HF.out.bel HW.out (by have := HB.out; omega) (.int .u16 (f : Int)) (.int .u16 (t : Int)) (.int .u64 (c : Int)) (.int .u64 (o : Int)) (.int .u64 (k : Int)) (.slice ao2 0 cap2)
      clear HF HW
      generalize ((((((Wx.setCell ⟨w.heap.size, 0, none⟩ (.int .u16 (f : Int))).setCell ⟨w.heap.size, 1, none⟩ (.int .u16 (t : Int))).setCell ⟨w.heap.size, 2, none⟩ (.int .u64 (c : Int))).setCell ⟨w.heap.size, 3, none⟩ (.int .u64 (o : Int))).setCell ⟨w.heap.size, 4, none⟩ (.int .u64 (k : Int))).setCell ⟨w.heap.size, 5, none⟩ (.slice ao2 0 cap2)).drew = Wz at HG HW2 HB2 ⊢
      exact bodyPost_ret (results_cell_tmp2 rfl _ Wz w.heap.size 60 #[.int .u16 (f : Int), .int .u16 (t : Int), .int .u64 (c : Int), .int .u64 (o : Int), .int .u64 (k : Int), .slice ao2 0 cap2] (0, 0) _ rfl HG Try.underlying60 rfl infoReq) rfl ⟨_, _, rfl, by have e := HMm.out; rw [e] at HW2; exact owns_mono HW2 (by have := HB.out; omega), by simp, HB2⟩
  case pass =>
    rintro a W hf
    exact hf.elim
end Go.Proofs.Ytckfmpoddmccfaa
namespace Go.Proofs.Ytckfmpoddmccfaa
open Go.RowKit
set_option linter.unusedVariables false
set_option linter.unusedSimpArgs false
set_option maxRecDepth 100000
set_option maxHeartbeats 8000000 in
theorem decRequest0_ok (b off cap n : Nat) (l : List Nat) (most : Nat) (f t c o k : Nat) (w : World) (h : CRow w (some ⟨b, off, none⟩) cap l) (HN : Hid (l.length = n)) (hs : 28 ≤ n) (HX0 : Hid (valB ((l.drop 0).take 4) = mReq)) (HX1 : Hid (valB ((l.drop 4).take 2) = f)) (HX2 : Hid (valB ((l.drop 6).take 2) = t)) (HX3 : Hid (valB ((l.drop 8).take 8) = c)) (HX4 : Hid (valB ((l.drop 16).take 8) = o)) (HX5 : Hid (valB ((l.drop 24).take 4) = k)) (hk64 : k < 18446744073709551616) (hm4 : most < 4294967296) (hpay : payB f t false = true) (hle : k ≤ most) (hfit : k ≤ n - 28) (N : Nat) (hN : 28 + k = N) (m : List Nat) (hm : (l.drop 28).take k = m) :
    Calls Try.prog 78 #[.slice (some ⟨b, off, none⟩) n cap, .int .u32 (most : Int), .bool false] w fun e w' => ∃ ao2 cap2, e = .returned (.tuple #[.agg #[.int .u16 (f : Int), .int .u16 (t : Int), .int .u64 (c : Int), .int .u64 (o : Int), .int .u64 (k : Int), .slice ao2 k cap2], .int .i64 (N : Int), .int .i64 0]) ∧ w'.ownsRow w.heap.size 5 1 (.slice ao2 k cap2) k (m.map bv) ∧ Below w.heap.size w w' := by
  have HXs : Hid (∀ W : World, Calls Try.prog 91 #[.bool false] W fun e W' => e = .returned (.tuple #[.int .u32 (mReq : Nat), .int .i64 28]) ∧ W' = W) := fun W => by
    go_enter Try.func91, Try.ntmps91
    go_wp2
    go_ret2
    exact ⟨rfl, rfl⟩
  have hnl := h.row.len
  rw [HN.out] at hnl
  have hsl : 28 ≤ l.length := by rw [HN.out]; exact hs
  have HC : Hid (CRow w (some ⟨b, off, none⟩) cap l) := h
  obtain ⟨W0, hW0⟩ : ∃ W0, W0 = (((w.alloc (.cells #[.int .u16 0, .int .u16 0, .int .u64 0, .int .u64 0, .int .u64 0, nilV] 60)).alloc (.cells #[.int .u16 0, .int .u16 0, .int .u64 0, .int .u64 0, .int .u64 0, nilV] 60)).alloc (.cells #[.int .u16 0, .int .u16 0, .int .u64 0, .int .u64 0, .int .u64 0, nilV] 60)) := ⟨_, rfl⟩
  have HO : Hid (Calls Try.prog 99 #[.slice (some ⟨b, off, none⟩) n cap, .int .i64 28] W0 fun e W' => ∃ r hh ao' cap' a2 c2, e = .returned (.pointer (some ⟨r, 0, none⟩)) ∧ Dec w W' (bx3 w 60 #[.int .u16 0, .int .u16 0, .int .u64 0, .int .u64 0, .int .u64 0, nilV] #[.int .u16 0, .int .u16 0, .int .u64 0, .int .u64 0, .int .u64 0, nilV] #[.int .u16 0, .int .u16 0, .int .u64 0, .int .u64 0, .int .u64 0, nilV]) W0.heap.size r hh ao' cap' (l.take 28) 0 (.slice (some a2) (n - 28) c2) 0 28 0 ∧ n - 28 ≤ c2 ∧ c2 ≤ 9223372036854775807 ∧ (n - 28 ≠ 0 → a2 = ⟨b, off + 28, none⟩)) := by
    rw [hW0]; exact open_ok b off cap n 28 l (bx3_bel w _ _ _) (bx3_new w _ _ _ _) (bx3_nd w _ _ _ _) (h.later (bx3_bel w _ _ _)) HN hs (by decide) (by decide)
  clear h
  go_enter Try.func78, Try.ntmps78
  go_wp2
  refine wp_scope_jumps 0 (fun _ _ => False) (fun _ _ => 0) rfl ?first ?pass
  case first =>
    go_wp2_with fail
    refine (HXs.out _).mono ?_
    rintro e W9 ⟨rfl, hw9⟩
    rw [hw9]; clear hw9 HXs
    go_wp2_with fail
    rw [← hW0]
    clear hW0
    refine HO.out.mono ?_
    rintro e W1 ⟨r, hh, ao', cap', a2, c2, rfl, h1, hc1, hc2, ha2⟩
    have H1 : Hid _ := h1
    have HA : Hid _ := ha2
    clear h1 HO ha2
    go_wp2_with fail
    refine (magic32_ok H1.out (by rw [List.length_take]; omega) mReq (by rw [tk _ _ _ _ (by decide)]; exact HX0.out)).mono ?_
    rintro e W2 ⟨rfl, hx⟩
    have H2 : Hid _ := hx
    clear hx H1
    go_wp2_with fail
    refine (rx_u16 H2.out f HX1.out (by decide) hsl).mono ?_
    rintro e W3 ⟨rfl, hx⟩
    have H3 : Hid _ := hx
    clear hx H2
    go_wp2_with fail
    refine (rx_u16 H3.out t HX2.out (by decide) hsl).mono ?_
    rintro e W4 ⟨rfl, hx⟩
    have H4 : Hid _ := hx
    clear hx H3
    obtain ⟨s0, u0⟩ := H4.out.b (.tail _ (.tail _ (.head _))) 0
    simp at s0
    obtain ⟨s1, u1⟩ := H4.out.b (.tail _ (.tail _ (.head _))) 1
    simp at s1
    go_wp2_with fail
    replace H4 : Hid _ := H4.out.putS 0 (.int .u16 (f : Int)) #[.int .u16 (f : Int), .int .u16 0, .int .u64 0, .int .u64 0, .int .u64 0, nilV] rfl
    replace H4 : Hid _ := H4.out.putS 1 (.int .u16 (t : Int)) #[.int .u16 (f : Int), .int .u16 (t : Int), .int .u64 0, .int .u64 0, .int .u64 0, nilV] rfl
    refine (rx_u64 H4.out c HX3.out (by decide) hsl).mono ?_
    rintro e W5 ⟨rfl, hx⟩
    have H5 : Hid _ := hx
    clear hx H4 s0 u0 s1 u1
    go_wp2_with fail
    refine (rx_u64 H5.out o HX4.out (by decide) hsl).mono ?_
    rintro e W6 ⟨rfl, hx⟩
    have H6 : Hid _ := hx
    clear hx H5
    go_wp2_with fail
    refine (rx_number_plain H6.out k HX5.out (by decide) hsl).mono ?_
    rintro e W7 ⟨rfl, hx⟩
    have H7 : Hid _ := hx
    clear hx H6
    obtain ⟨s2, u2⟩ := H7.out.b (.tail _ (.tail _ (.head _))) 2
    simp at s2
    obtain ⟨s3, u3⟩ := H7.out.b (.tail _ (.tail _ (.head _))) 3
    simp at s3
    obtain ⟨s4, u4⟩ := H7.out.b (.tail _ (.tail _ (.head _))) 4
    simp at s4
    obtain ⟨s0, u0⟩ := H7.out.b (.tail _ (.tail _ (.head _))) 0
    simp at s0
    obtain ⟨s1, u1⟩ := H7.out.b (.tail _ (.tail _ (.head _))) 1
    simp at s1
    obtain ⟨s5, u5⟩ := H7.out.b (.tail _ (.tail _ (.head _))) 5
    simp at s5
    go_wp2_with fail
    replace H7 : Hid _ := H7.out.putS 2 (.int .u64 (c : Int)) #[.int .u16 (f : Int), .int .u16 (t : Int), .int .u64 (c : Int), .int .u64 0, .int .u64 0, nilV] rfl
    replace H7 : Hid _ := H7.out.putS 3 (.int .u64 (o : Int)) #[.int .u16 (f : Int), .int .u16 (t : Int), .int .u64 (c : Int), .int .u64 (o : Int), .int .u64 0, nilV] rfl
    replace H7 : Hid _ := H7.out.putS 4 (.int .u64 (k : Int)) #[.int .u16 (f : Int), .int .u16 (t : Int), .int .u64 (c : Int), .int .u64 (o : Int), .int .u64 (k : Int), nilV] rfl
    refine (pay_any f t c o k none 0 [] false _).mono ?_
    rintro e W8 ⟨rfl, hb9⟩
    have H8 : Hid _ := H7.out.later hb9
    clear hb9 H7 s2 u2 s3 u3 s4 u4 s0 u0 s1 u1 s5 u5
    rw [hpay]
    obtain ⟨s4, u4⟩ := H8.out.b (.tail _ (.tail _ (.head _))) 4
    simp at s4
    go_wp2_with fail
    refine (measure_rest H8.out (by decide) (by omega) k most hm4 hle N hN).mono ?_
    rintro e W9 hx
    have HX9 : Hid _ := hx
    clear hx H8 s4 u4
    rcases HX9.out with ⟨hx, _⟩ | ⟨_, rfl, hx⟩
    · omega
    have H9 : Hid _ := hx
    clear hx HX9
    have hml : m.length = k := by rw [← hm, List.length_take, List.length_drop, HN.out]; omega
    have hmt : ∀ x ∈ m, x < 256 := fun x hx => HC.out.row.lt x (by rw [← hm] at hx; exact List.mem_of_mem_drop (List.mem_of_mem_take hx))
    have HDt : Hid _ := data_any (len := k) H9.out m hml hmt (by rw [← hm]; exact tail_news HC.out H9.out.bel (by rw [HN.out]; exact HA.out)) (by omega) hc1 (by omega) hc2
    have HB : Hid (w.heap.size + 1 + 1 < W9.heap.size) := by show _ < _; have h1 := block_lt H9.out.rd; have h2 := H9.out.hr; have h3 : w.heap.size + 1 + 1 < _ := (H9.out.box _ (.tail _ (.tail _ (.head _)))).2.2; omega
    clear H9 HX0 HX1 HX2 HX3 HX4 HX5 HN HC hml hmt HA 
    go_wp2_with fail
    refine Calls.mono HDt.out ?_
    rintro e W10 ⟨ao2, cap2, rfl, ho, hb, h9⟩
    have H10 : Hid _ := h9
    have HR : Hid (W10.ownsRow W9.heap.size 5 1 (.slice ao2 k cap2) k (m.map bv)) := ho
    clear h9 ho hb HDt
    obtain ⟨c10, f10⟩ := H10.out.b (.tail _ (.head _)) 0
    obtain ⟨c20, f20⟩ := H10.out.b (.tail _ (.tail _ (.head _))) 0
    obtain ⟨c11, f11⟩ := H10.out.b (.tail _ (.head _)) 1
    obtain ⟨c21, f21⟩ := H10.out.b (.tail _ (.tail _ (.head _))) 1
    obtain ⟨c12, f12⟩ := H10.out.b (.tail _ (.head _)) 2
    obtain ⟨c22, f22⟩ := H10.out.b (.tail _ (.tail _ (.head _))) 2
    obtain ⟨c13, f13⟩ := H10.out.b (.tail _ (.head _)) 3
    obtain ⟨c23, f23⟩ := H10.out.b (.tail _ (.tail _ (.head _))) 3
    obtain ⟨c14, f14⟩ := H10.out.b (.tail _ (.head _)) 4
    obtain ⟨c24, f24⟩ := H10.out.b (.tail _ (.tail _ (.head _))) 4
    obtain ⟨c15, f15⟩ := H10.out.b (.tail _ (.head _)) 5
    obtain ⟨c25, f25⟩ := H10.out.b (.tail _ (.tail _ (.head _))) 5
    simp at c10 c20 c11 c21 c12 c22 c13 c23 c14 c24 c15 c25
    go_wp2
    go_step3
    have HF : Hid _ := (((((((H10.out.putS 5 (.slice ao2 k cap2) #[.int .u16 (f : Int), .int .u16 (t : Int), .int .u64 (c : Int), .int .u64 (o : Int), .int .u64 (k : Int), .slice ao2 k cap2] rfl).putO 0 (.int .u16 (f : Int)) #[.int .u16 (f : Int), .int .u16 0, .int .u64 0, .int .u64 0, .int .u64 0, nilV] rfl).putO 1 (.int .u16 (t : Int)) #[.int .u16 (f : Int), .int .u16 (t : Int), .int .u64 0, .int .u64 0, .int .u64 0, nilV] rfl).putO 2 (.int .u64 (c : Int)) #[.int .u16 (f : Int), .int .u16 (t : Int), .int .u64 (c : Int), .int .u64 0, .int .u64 0, nilV] rfl).putO 3 (.int .u64 (o : Int)) #[.int .u16 (f : Int), .int .u16 (t : Int), .int .u64 (c : Int), .int .u64 (o : Int), .int .u64 0, nilV] rfl).putO 4 (.int .u64 (k : Int)) #[.int .u16 (f : Int), .int .u16 (t : Int), .int .u64 (c : Int), .int .u64 (o : Int), .int .u64 (k : Int), nilV] rfl).putO 5 (.slice ao2 k cap2) #[.int .u16 (f : Int), .int .u16 (t : Int), .int .u64 (c : Int), .int .u64 (o : Int), .int .u64 (k : Int), .slice ao2 k cap2] rfl)
    have HW : Hid (((((((((W10.setCell ⟨w.heap.size + 1 + 1, 5, none⟩ (.slice ao2 k cap2)).setCell ⟨w.heap.size + 1, 0, none⟩ (.int .u16 (f : Int))).setCell ⟨w.heap.size + 1, 1, none⟩ (.int .u16 (t : Int))).setCell ⟨w.heap.size + 1, 2, none⟩ (.int .u64 (c : Int))).setCell ⟨w.heap.size + 1, 3, none⟩ (.int .u64 (o : Int))).setCell ⟨w.heap.size + 1, 4, none⟩ (.int .u64 (k : Int))).setCell ⟨w.heap.size + 1, 5, none⟩ (.slice ao2 k cap2))).ownsRow W9.heap.size 5 1 (.slice ao2 k cap2) k (m.map bv)) := setAll_owns [(w.heap.size + 1 + 1, 5, .slice ao2 k cap2), (w.heap.size + 1, 0, .int .u16 (f : Int)), (w.heap.size + 1, 1, .int .u16 (t : Int)), (w.heap.size + 1, 2, .int .u64 (c : Int)), (w.heap.size + 1, 3, .int .u64 (o : Int)), (w.heap.size + 1, 4, .int .u64 (k : Int)), (w.heap.size + 1, 5, .slice ao2 k cap2)] W10 HR.out (by have := HB.out; simp; omega)
    clear HR H10 c10 f10 c20 f20 c11 f11 c21 f21 c12 f12 c22 f22 c13 f13 c23 f23 c14 f14 c24 f24 c15 f15 c25 f25
    generalize (((((((W10.setCell ⟨w.heap.size + 1 + 1, 5, none⟩ (.slice ao2 k cap2)).setCell ⟨w.heap.size + 1, 0, none⟩ (.int .u16 (f : Int))).setCell ⟨w.heap.size + 1, 1, none⟩ (.int .u16 (t : Int))).setCell ⟨w.heap.size + 1, 2, none⟩ (.int .u64 (c : Int))).setCell ⟨w.heap.size + 1, 3, none⟩ (.int .u64 (o : Int))).setCell ⟨w.heap.size + 1, 4, none⟩ (.int .u64 (k : Int))).setCell ⟨w.heap.size + 1, 5, none⟩ (.slice ao2 k cap2)) = Wx at *
    have hn1 : ¬ (w.heap.size = r) := (HF.out.lb.box _ (.head _)).2.2
    have hn2 : ¬ (r = w.heap.size) := fun e => hn1 e.symm
    have r3 := HF.out.lb.cn
    have r4 := HF.out.lb.ce
    obtain ⟨c00, f00⟩ := HF.out.b (.head _) 0
    obtain ⟨c10, f10⟩ := HF.out.b (.tail _ (.head _)) 0
    obtain ⟨c01, f01⟩ := HF.out.b (.head _) 1
    obtain ⟨c11, f11⟩ := HF.out.b (.tail _ (.head _)) 1
    obtain ⟨c02, f02⟩ := HF.out.b (.head _) 2
    obtain ⟨c12, f12⟩ := HF.out.b (.tail _ (.head _)) 2
    obtain ⟨c03, f03⟩ := HF.out.b (.head _) 3
    obtain ⟨c13, f13⟩ := HF.out.b (.tail _ (.head _)) 3
    obtain ⟨c04, f04⟩ := HF.out.b (.head _) 4
    obtain ⟨c14, f14⟩ := HF.out.b (.tail _ (.head _)) 4
    obtain ⟨c05, f05⟩ := HF.out.b (.head _) 5
    obtain ⟨c15, f15⟩ := HF.out.b (.tail _ (.head _)) 5
    simp at c00 c10 c01 c11 c02 c12 c03 c13 c04 c14 c05 c15
    go_wp2
    go_region
    all_goals
      go_wp2
      rw [jump_ret]
      obtain ⟨HG, HW2, HB2⟩ := close6 (HF.out.box _ (.head _)).1 HF.out.bel HW.out (by have := HB.out; omega) (.int .u16 (f : Int)) (.int .u16 (t : Int)) (.int .u64 (c : Int)) (.int .u64 (o : Int)) (.int .u64 (k : Int)) (.slice ao2 k cap2)
      clear HF HW
      generalize ((((((Wx.setCell ⟨w.heap.size, 0, none⟩ (.int .u16 (f : Int))).setCell ⟨w.heap.size, 1, none⟩ (.int .u16 (t : Int))).setCell ⟨w.heap.size, 2, none⟩ (.int .u64 (c : Int))).setCell ⟨w.heap.size, 3, none⟩ (.int .u64 (o : Int))).setCell ⟨w.heap.size, 4, none⟩ (.int .u64 (k : Int))).setCell ⟨w.heap.size, 5, none⟩ (.slice ao2 k cap2)).drew = Wz at HG HW2 HB2 ⊢
      exact bodyPost_ret (results_cell_tmp2 rfl _ Wz w.heap.size 60 #[.int .u16 (f : Int), .int .u16 (t : Int), .int .u64 (c : Int), .int .u64 (o : Int), .int .u64 (k : Int), .slice ao2 k cap2] (0, 0) _ rfl HG Try.underlying60 rfl infoReq) rfl ⟨_, _, rfl, owns_mono HW2 (by have := HB.out; omega), HB2⟩
  case pass =>
    rintro a W hf
    exact hf.elim
end Go.Proofs.Ytckfmpoddmccfaa
namespace Go.Proofs.Ytckfmpoddmccfaa
open Go.RowKit
set_option linter.unusedVariables false
set_option linter.unusedSimpArgs false
set_option maxRecDepth 100000
set_option maxHeartbeats 8000000 in
theorem decRequest1_ok (b off cap n : Nat) (l : List Nat) (most : Nat) (f t c o k : Nat) (w : World) (h : CRow w (some ⟨b, off, none⟩) cap l) (HN : Hid (l.length = n)) (hs : 32 ≤ n) (HX0 : Hid (valB ((l.drop 0).take 4) = mReq64)) (HX1 : Hid (valB ((l.drop 4).take 2) = f)) (HX2 : Hid (valB ((l.drop 6).take 2) = t)) (HX3 : Hid (valB ((l.drop 8).take 8) = c)) (HX4 : Hid (valB ((l.drop 16).take 8) = o)) (HX5 : Hid (valB ((l.drop 24).take 8) = k)) (hk64 : k < 18446744073709551616) (hm4 : most < 4294967296) (hpay : payB f t true = true) (hle : k ≤ most) (hfit : k ≤ n - 32) (N : Nat) (hN : 32 + k = N) (m : List Nat) (hm : (l.drop 32).take k = m) :
    Calls Try.prog 78 #[.slice (some ⟨b, off, none⟩) n cap, .int .u32 (most : Int), .bool true] w fun e w' => ∃ ao2 cap2, e = .returned (.tuple #[.agg #[.int .u16 (f : Int), .int .u16 (t : Int), .int .u64 (c : Int), .int .u64 (o : Int), .int .u64 (k : Int), .slice ao2 k cap2], .int .i64 (N : Int), .int .i64 0]) ∧ w'.ownsRow w.heap.size 5 1 (.slice ao2 k cap2) k (m.map bv) ∧ Below w.heap.size w w' := by
  have HXs : Hid (∀ W : World, Calls Try.prog 91 #[.bool true] W fun e W' => e = .returned (.tuple #[.int .u32 (mReq64 : Nat), .int .i64 32]) ∧ W' = W) := fun W => by
    go_enter Try.func91, Try.ntmps91
    go_wp2
    go_ret2
    exact ⟨rfl, rfl⟩
  have hnl := h.row.len
  rw [HN.out] at hnl
  have hsl : 32 ≤ l.length := by rw [HN.out]; exact hs
  have HC : Hid (CRow w (some ⟨b, off, none⟩) cap l) := h
  obtain ⟨W0, hW0⟩ : ∃ W0, W0 = (((w.alloc (.cells #[.int .u16 0, .int .u16 0, .int .u64 0, .int .u64 0, .int .u64 0, nilV] 60)).alloc (.cells #[.int .u16 0, .int .u16 0, .int .u64 0, .int .u64 0, .int .u64 0, nilV] 60)).alloc (.cells #[.int .u16 0, .int .u16 0, .int .u64 0, .int .u64 0, .int .u64 0, nilV] 60)) := ⟨_, rfl⟩
  have HO : Hid (Calls Try.prog 99 #[.slice (some ⟨b, off, none⟩) n cap, .int .i64 32] W0 fun e W' => ∃ r hh ao' cap' a2 c2, e = .returned (.pointer (some ⟨r, 0, none⟩)) ∧ Dec w W' (bx3 w 60 #[.int .u16 0, .int .u16 0, .int .u64 0, .int .u64 0, .int .u64 0, nilV] #[.int .u16 0, .int .u16 0, .int .u64 0, .int .u64 0, .int .u64 0, nilV] #[.int .u16 0, .int .u16 0, .int .u64 0, .int .u64 0, .int .u64 0, nilV]) W0.heap.size r hh ao' cap' (l.take 32) 0 (.slice (some a2) (n - 32) c2) 0 32 0 ∧ n - 32 ≤ c2 ∧ c2 ≤ 9223372036854775807 ∧ (n - 32 ≠ 0 → a2 = ⟨b, off + 32, none⟩)) := by
    rw [hW0]; exact open_ok b off cap n 32 l (bx3_bel w _ _ _) (bx3_new w _ _ _ _) (bx3_nd w _ _ _ _) (h.later (bx3_bel w _ _ _)) HN hs (by decide) (by decide)
  clear h
  go_enter Try.func78, Try.ntmps78
  go_wp2
  refine wp_scope_jumps 0 (fun _ _ => False) (fun _ _ => 0) rfl ?first ?pass
  case first =>
    go_wp2_with fail
    refine (HXs.out _).mono ?_
    rintro e W9 ⟨rfl, hw9⟩
    rw [hw9]; clear hw9 HXs
    go_wp2_with fail
    rw [← hW0]
    clear hW0
    refine HO.out.mono ?_
    rintro e W1 ⟨r, hh, ao', cap', a2, c2, rfl, h1, hc1, hc2, ha2⟩
    have H1 : Hid _ := h1
    have HA : Hid _ := ha2
    clear h1 HO ha2
    go_wp2_with fail
    refine (magic32_ok H1.out (by rw [List.length_take]; omega) mReq64 (by rw [tk _ _ _ _ (by decide)]; exact HX0.out)).mono ?_
    rintro e W2 ⟨rfl, hx⟩
    have H2 : Hid _ := hx
    clear hx H1
    go_wp2_with fail
    refine (rx_u16 H2.out f HX1.out (by decide) hsl).mono ?_
    rintro e W3 ⟨rfl, hx⟩
    have H3 : Hid _ := hx
    clear hx H2
    go_wp2_with fail
    refine (rx_u16 H3.out t HX2.out (by decide) hsl).mono ?_
    rintro e W4 ⟨rfl, hx⟩
    have H4 : Hid _ := hx
    clear hx H3
    obtain ⟨s0, u0⟩ := H4.out.b (.tail _ (.tail _ (.head _))) 0
    simp at s0
    obtain ⟨s1, u1⟩ := H4.out.b (.tail _ (.tail _ (.head _))) 1
    simp at s1
    go_wp2_with fail
    replace H4 : Hid _ := H4.out.putS 0 (.int .u16 (f : Int)) #[.int .u16 (f : Int), .int .u16 0, .int .u64 0, .int .u64 0, .int .u64 0, nilV] rfl
    replace H4 : Hid _ := H4.out.putS 1 (.int .u16 (t : Int)) #[.int .u16 (f : Int), .int .u16 (t : Int), .int .u64 0, .int .u64 0, .int .u64 0, nilV] rfl
    refine (rx_u64 H4.out c HX3.out (by decide) hsl).mono ?_
    rintro e W5 ⟨rfl, hx⟩
    have H5 : Hid _ := hx
    clear hx H4 s0 u0 s1 u1
    go_wp2_with fail
    refine (rx_u64 H5.out o HX4.out (by decide) hsl).mono ?_
    rintro e W6 ⟨rfl, hx⟩
    have H6 : Hid _ := hx
    clear hx H5
    go_wp2_with fail
    refine (rx_number_wide H6.out k HX5.out (by decide) hsl).mono ?_
    rintro e W7 ⟨rfl, hx⟩
    have H7 : Hid _ := hx
    clear hx H6
    obtain ⟨s2, u2⟩ := H7.out.b (.tail _ (.tail _ (.head _))) 2
    simp at s2
    obtain ⟨s3, u3⟩ := H7.out.b (.tail _ (.tail _ (.head _))) 3
    simp at s3
    obtain ⟨s4, u4⟩ := H7.out.b (.tail _ (.tail _ (.head _))) 4
    simp at s4
    obtain ⟨s0, u0⟩ := H7.out.b (.tail _ (.tail _ (.head _))) 0
    simp at s0
    obtain ⟨s1, u1⟩ := H7.out.b (.tail _ (.tail _ (.head _))) 1
    simp at s1
    obtain ⟨s5, u5⟩ := H7.out.b (.tail _ (.tail _ (.head _))) 5
    simp at s5
    go_wp2_with fail
    replace H7 : Hid _ := H7.out.putS 2 (.int .u64 (c : Int)) #[.int .u16 (f : Int), .int .u16 (t : Int), .int .u64 (c : Int), .int .u64 0, .int .u64 0, nilV] rfl
    replace H7 : Hid _ := H7.out.putS 3 (.int .u64 (o : Int)) #[.int .u16 (f : Int), .int .u16 (t : Int), .int .u64 (c : Int), .int .u64 (o : Int), .int .u64 0, nilV] rfl
    replace H7 : Hid _ := H7.out.putS 4 (.int .u64 (k : Int)) #[.int .u16 (f : Int), .int .u16 (t : Int), .int .u64 (c : Int), .int .u64 (o : Int), .int .u64 (k : Int), nilV] rfl
    refine (pay_any f t c o k none 0 [] true _).mono ?_
    rintro e W8 ⟨rfl, hb9⟩
    have H8 : Hid _ := H7.out.later hb9
    clear hb9 H7 s2 u2 s3 u3 s4 u4 s0 u0 s1 u1 s5 u5
    rw [hpay]
    obtain ⟨s4, u4⟩ := H8.out.b (.tail _ (.tail _ (.head _))) 4
    simp at s4
    go_wp2_with fail
    refine (measure_rest H8.out (by decide) (by omega) k most hm4 hle N hN).mono ?_
    rintro e W9 hx
    have HX9 : Hid _ := hx
    clear hx H8 s4 u4
    rcases HX9.out with ⟨hx, _⟩ | ⟨_, rfl, hx⟩
    · omega
    have H9 : Hid _ := hx
    clear hx HX9
    have hml : m.length = k := by rw [← hm, List.length_take, List.length_drop, HN.out]; omega
    have hmt : ∀ x ∈ m, x < 256 := fun x hx => HC.out.row.lt x (by rw [← hm] at hx; exact List.mem_of_mem_drop (List.mem_of_mem_take hx))
    have HDt : Hid _ := data_any (len := k) H9.out m hml hmt (by rw [← hm]; exact tail_news HC.out H9.out.bel (by rw [HN.out]; exact HA.out)) (by omega) hc1 (by omega) hc2
    have HB : Hid (w.heap.size + 1 + 1 < W9.heap.size) := by show _ < _; have h1 := block_lt H9.out.rd; have h2 := H9.out.hr; have h3 : w.heap.size + 1 + 1 < _ := (H9.out.box _ (.tail _ (.tail _ (.head _)))).2.2; omega
    clear H9 HX0 HX1 HX2 HX3 HX4 HX5 HN HC hml hmt HA 
    go_wp2_with fail
    refine Calls.mono HDt.out ?_
    rintro e W10 ⟨ao2, cap2, rfl, ho, hb, h9⟩
    have H10 : Hid _ := h9
    have HR : Hid (W10.ownsRow W9.heap.size 5 1 (.slice ao2 k cap2) k (m.map bv)) := ho
    clear h9 ho hb HDt
    obtain ⟨c10, f10⟩ := H10.out.b (.tail _ (.head _)) 0
    obtain ⟨c20, f20⟩ := H10.out.b (.tail _ (.tail _ (.head _))) 0
    obtain ⟨c11, f11⟩ := H10.out.b (.tail _ (.head _)) 1
    obtain ⟨c21, f21⟩ := H10.out.b (.tail _ (.tail _ (.head _))) 1
    obtain ⟨c12, f12⟩ := H10.out.b (.tail _ (.head _)) 2
    obtain ⟨c22, f22⟩ := H10.out.b (.tail _ (.tail _ (.head _))) 2
    obtain ⟨c13, f13⟩ := H10.out.b (.tail _ (.head _)) 3
    obtain ⟨c23, f23⟩ := H10.out.b (.tail _ (.tail _ (.head _))) 3
    obtain ⟨c14, f14⟩ := H10.out.b (.tail _ (.head _)) 4
    obtain ⟨c24, f24⟩ := H10.out.b (.tail _ (.tail _ (.head _))) 4
    obtain ⟨c15, f15⟩ := H10.out.b (.tail _ (.head _)) 5
    obtain ⟨c25, f25⟩ := H10.out.b (.tail _ (.tail _ (.head _))) 5
    simp at c10 c20 c11 c21 c12 c22 c13 c23 c14 c24 c15 c25
    go_wp2
    go_step3
    have HF : Hid _ := (((((((H10.out.putS 5 (.slice ao2 k cap2) #[.int .u16 (f : Int), .int .u16 (t : Int), .int .u64 (c : Int), .int .u64 (o : Int), .int .u64 (k : Int), .slice ao2 k cap2] rfl).putO 0 (.int .u16 (f : Int)) #[.int .u16 (f : Int), .int .u16 0, .int .u64 0, .int .u64 0, .int .u64 0, nilV] rfl).putO 1 (.int .u16 (t : Int)) #[.int .u16 (f : Int), .int .u16 (t : Int), .int .u64 0, .int .u64 0, .int .u64 0, nilV] rfl).putO 2 (.int .u64 (c : Int)) #[.int .u16 (f : Int), .int .u16 (t : Int), .int .u64 (c : Int), .int .u64 0, .int .u64 0, nilV] rfl).putO 3 (.int .u64 (o : Int)) #[.int .u16 (f : Int), .int .u16 (t : Int), .int .u64 (c : Int), .int .u64 (o : Int), .int .u64 0, nilV] rfl).putO 4 (.int .u64 (k : Int)) #[.int .u16 (f : Int), .int .u16 (t : Int), .int .u64 (c : Int), .int .u64 (o : Int), .int .u64 (k : Int), nilV] rfl).putO 5 (.slice ao2 k cap2) #[.int .u16 (f : Int), .int .u16 (t : Int), .int .u64 (c : Int), .int .u64 (o : Int), .int .u64 (k : Int), .slice ao2 k cap2] rfl)
    have HW : Hid (((((((((W10.setCell ⟨w.heap.size + 1 + 1, 5, none⟩ (.slice ao2 k cap2)).setCell ⟨w.heap.size + 1, 0, none⟩ (.int .u16 (f : Int))).setCell ⟨w.heap.size + 1, 1, none⟩ (.int .u16 (t : Int))).setCell ⟨w.heap.size + 1, 2, none⟩ (.int .u64 (c : Int))).setCell ⟨w.heap.size + 1, 3, none⟩ (.int .u64 (o : Int))).setCell ⟨w.heap.size + 1, 4, none⟩ (.int .u64 (k : Int))).setCell ⟨w.heap.size + 1, 5, none⟩ (.slice ao2 k cap2))).ownsRow W9.heap.size 5 1 (.slice ao2 k cap2) k (m.map bv)) := setAll_owns [(w.heap.size + 1 + 1, 5, .slice ao2 k cap2), (w.heap.size + 1, 0, .int .u16 (f : Int)), (w.heap.size + 1, 1, .int .u16 (t : Int)), (w.heap.size + 1, 2, .int .u64 (c : Int)), (w.heap.size + 1, 3, .int .u64 (o : Int)), (w.heap.size + 1, 4, .int .u64 (k : Int)), (w.heap.size + 1, 5, .slice ao2 k cap2)] W10 HR.out (by have := HB.out; simp; omega)
    clear HR H10 c10 f10 c20 f20 c11 f11 c21 f21 c12 f12 c22 f22 c13 f13 c23 f23 c14 f14 c24 f24 c15 f15 c25 f25
    generalize (((((((W10.setCell ⟨w.heap.size + 1 + 1, 5, none⟩ (.slice ao2 k cap2)).setCell ⟨w.heap.size + 1, 0, none⟩ (.int .u16 (f : Int))).setCell ⟨w.heap.size + 1, 1, none⟩ (.int .u16 (t : Int))).setCell ⟨w.heap.size + 1, 2, none⟩ (.int .u64 (c : Int))).setCell ⟨w.heap.size + 1, 3, none⟩ (.int .u64 (o : Int))).setCell ⟨w.heap.size + 1, 4, none⟩ (.int .u64 (k : Int))).setCell ⟨w.heap.size + 1, 5, none⟩ (.slice ao2 k cap2)) = Wx at *
    have hn1 : ¬ (w.heap.size = r) := (HF.out.lb.box _ (.head _)).2.2
    have hn2 : ¬ (r = w.heap.size) := fun e => hn1 e.symm
    have r3 := HF.out.lb.cn
    have r4 := HF.out.lb.ce
    obtain ⟨c00, f00⟩ := HF.out.b (.head _) 0
    obtain ⟨c10, f10⟩ := HF.out.b (.tail _ (.head _)) 0
    obtain ⟨c01, f01⟩ := HF.out.b (.head _) 1
    obtain ⟨c11, f11⟩ := HF.out.b (.tail _ (.head _)) 1
    obtain ⟨c02, f02⟩ := HF.out.b (.head _) 2
    obtain ⟨c12, f12⟩ := HF.out.b (.tail _ (.head _)) 2
    obtain ⟨c03, f03⟩ := HF.out.b (.head _) 3
    obtain ⟨c13, f13⟩ := HF.out.b (.tail _ (.head _)) 3
    obtain ⟨c04, f04⟩ := HF.out.b (.head _) 4
    obtain ⟨c14, f14⟩ := HF.out.b (.tail _ (.head _)) 4
    obtain ⟨c05, f05⟩ := HF.out.b (.head _) 5
    obtain ⟨c15, f15⟩ := HF.out.b (.tail _ (.head _)) 5
    simp at c00 c10 c01 c11 c02 c12 c03 c13 c04 c14 c05 c15
    go_wp2
    go_region
    all_goals
      go_wp2
      rw [jump_ret]
      obtain ⟨HG, HW2, HB2⟩ := close6 (HF.out.box _ (.head _)).1 HF.out.bel HW.out (by have := HB.out; omega) (.int .u16 (f : Int)) (.int .u16 (t : Int)) (.int .u64 (c : Int)) (.int .u64 (o : Int)) (.int .u64 (k : Int)) (.slice ao2 k cap2)
      clear HF HW
      generalize ((((((Wx.setCell ⟨w.heap.size, 0, none⟩ (.int .u16 (f : Int))).setCell ⟨w.heap.size, 1, none⟩ (.int .u16 (t : Int))).setCell ⟨w.heap.size, 2, none⟩ (.int .u64 (c : Int))).setCell ⟨w.heap.size, 3, none⟩ (.int .u64 (o : Int))).setCell ⟨w.heap.size, 4, none⟩ (.int .u64 (k : Int))).setCell ⟨w.heap.size, 5, none⟩ (.slice ao2 k cap2)).drew = Wz at HG HW2 HB2 ⊢
      exact bodyPost_ret (results_cell_tmp2 rfl _ Wz w.heap.size 60 #[.int .u16 (f : Int), .int .u16 (t : Int), .int .u64 (c : Int), .int .u64 (o : Int), .int .u64 (k : Int), .slice ao2 k cap2] (0, 0) _ rfl HG Try.underlying60 rfl infoReq) rfl ⟨_, _, rfl, owns_mono HW2 (by have := HB.out; omega), HB2⟩
  case pass =>
    rintro a W hf
    exact hf.elim
end Go.Proofs.Ytckfmpoddmccfaa
