import Derived.Test.YtbamjfnjenmdaaaGreatzCV
namespace Go.Proofs.YtbamjfnjenmdaaaGreat.C
open Go.RowKit Go.Maps Go.Shelf Go.Proofs.YtbamjfnjenmdaaaGreat
attribute [local go_sem] Oper.semAt_some
set_option linter.unusedVariables false
set_option linter.unusedSimpArgs false
set_option maxRecDepth 100000

def cs0 : Cs := ⟨0, 0, 0, 0⟩
def newCh (most : Nat) (l : List (Int × Int)) : Ch := ⟨most, l, [], cs0⟩
/-- what a new cache leaves -/
structure Made (w w' : World) (b ms ml : Nat) (qv fv : Value) (S : K.Dk) (most : Nat) (l : List (Int × Int)) (P : Loc) : Prop where
  rc : RC w' P S (newCh most l)
  bd : P.bd = b ∧ P.ms = ms ∧ P.ml = ml ∧ P.qv = qv ∧ P.fv = fv
  kp : K.Kp w w' (K.fp b ms ml qv fv)
  new : ∀ i, i ∈ P.ofp ∨ i ∈ P.cfp [] → w.heap.size ≤ i
set_option maxHeartbeats 4000000 in
theorem new_c {w : World} {b ms ml : Nat} {qv fv : Value} {S : K.Dk} (h : K.RK w 0 b ms ml qv fv S) {most : Nat} (hm0 : 1 ≤ most) (hm1 : most ≤ 1024) {ao : Option Addr} {cap : Nat} {l : List (Int × Int)} (hr : SpR w ao l) (hl : l.length ≤ 64) (hw : ∀ p ∈ l, I64 p.1 ∧ I64 p.2) (ha : Apart S.n l) (hao : ao = none → l = []) (hau : ∀ a, ao = some a → ∃ b off, a = ⟨b, off, none⟩) (hfar : ∀ b' off, ao = some ⟨b', off, none⟩ → b' ∉ K.fp b ms ml qv fv) :
    Calls Tryz.prog 21 #[.pointer (some ⟨b, 0, none⟩), .int .i64 most, .slice ao l.length cap] w fun r w' => ∃ P, r = .returned (.tuple #[.pointer (some ⟨P.bc, 0, none⟩), .int .i64 0]) ∧ Made w w' b ms ml qv fv S most l P := by
  have hs := K.sectors_any h
  have hn0 := h.n0
  have hn1 := h.n1
  have hmk := fun (w : World) => run_makeMap (P := Tryz.prog) TLm w
  have hap : apartB S.n l = true := apartB_iff.2 ha
  -- the spans behind the question for the sectors
  have HSP : Hid (∀ w1, K.DAct w w1 0 b ms ml ms ml qv fv qv fv S → SpR w1 ao l) := fun w1 hd k p hk => by
    obtain ⟨g, off, e, hg, c0, c1⟩ := hr k p hk
    have hb := hd.kp.block g hg (hfar g off e)
    refine ⟨g, off, e, Nat.lt_of_lt_of_le hg hd.kp.size, ?_, ?_⟩
    · unfold World.cell? at c0 ⊢; rw [hb]; exact c0
    · unfold World.cell? at c1 ⊢; rw [hb]; exact c1
  have HL : Hid (∀ w1, K.DAct w w1 0 b ms ml ms ml qv fv qv fv S → Calls Tryz.prog 49 #[.slice ao l.length cap, .int .i64 S.n] w1 fun r w2 => r = .returned (.bool true) ∧ Below w1.heap.size w1 w2 ∧ Calls Tryz.prog 50 #[.slice ao l.length cap] w2 fun r w3 => ∃ ao' cap', r = .returned (.slice ao' l.length cap') ∧ w3.ownsRow w2.heap.size TSp 2 (.slice ao' l.length cap') l.length (spcells l) ∧ Below w2.heap.size w2 w3) := fun w1 hd => by
    have hsp := HSP.out w1 hd
    have h1 := lieApart_c (n := S.n) (cap := cap) hsp (by omega) hn1 hw
    rw [hap] at h1
    refine h1.mono ?_
    rintro r w2 ⟨rfl, hb⟩
    refine ⟨rfl, hb, (cloneS_c (cap := cap) (hsp.later hb) (by omega) hao hau).mono ?_⟩
    rintro r w3 ⟨v, rfl, ho, hb3⟩
    obtain ⟨ao', cap', rfl, _⟩ := sp_form ho
    exact ⟨ao', cap', rfl, ho, hb3⟩
  have HNW := fun w => I.new_any w
  have d1 : ¬ ((most : Int) < 1) := by omega
  have d2 : ¬ ((1024 : Int) < (most : Int)) := by omega
  have d3 : ¬ ((64 : Int) < (l.length : Int)) := by omega
  have d4 : ¬ ((S.n : Int) = 0) := by omega
  have d4' : ¬ (S.n = 0) := by omega
  have b1 : decide ((most : Int) < 1) = false := decide_eq_false d1
  have b2 : decide ((l.length : Int) > 64) = false := decide_eq_false d3
  have HLe : Hid (l.length ≤ 64) := hl
  have HH : Hid (K.RK w 0 b ms ml qv fv S) := h
  have HA : Hid (Apart S.n l) := ha
  clear hr hw ha hao hau hfar hap HSP h
  go_enter Tryz.func21, Tryz.ntmps21
  go_wp2_with (first | (go_at_call 48; refine hs.mono ?_; clear hs; rintro r w1 ⟨rfl, hd1⟩; have hlp := HL.out w1 hd1; clear HL) | (go_at_call 49; refine hlp.mono ?_; clear hlp; rintro r w2 ⟨rfl, hb2, hcl⟩) | (go_at_call 50; refine hcl.mono ?_; clear hcl; rintro r w3 ⟨ao', cap', rfl, ho3, hb3⟩) | (go_at_call 51; refine (HNW _).mono ?_; clear HNW; rintro r w5 ⟨bo, bm, g, rfl, hro, hb5, hfp⟩))
  refine bodyPost_ret (results_tmp2 rfl _ _ _) rfl ?_
  have s1 := hd1.kp.size
  have s2 := hb2.size
  have s3 := hb3.size
  have s4 : (w3.alloc (.map #[] 0)).heap.size = w3.heap.size + 1 := World.size_alloc _ _
  rw [s4] at hfp
  have s5 := hb5.size
  rw [s4] at s5
  have hb34 : Below w3.heap.size w3 (w3.alloc (.map #[] 0)) := (Below.refl _ w3).alloc (Nat.le_refl _) _
  have hb35 : Below w3.heap.size w3 w5 := hb34.trans (hb5.mono (by rw [s4]; omega))
  obtain ⟨w6, hw6⟩ : ∃ w6, w6 = w5.alloc (.cells #[.pointer (some ⟨b, 0, none⟩), .int .i64 most, .slice ao' l.length cap', .map (some w3.heap.size), .pointer (some ⟨bo, 0, none⟩), .int .u64 0, .int .u64 0, .int .u64 0, .int .u64 0] TCa) := ⟨_, rfl⟩
  have hb56 : Below w5.heap.size w5 w6 := by rw [hw6]; exact (Below.refl _ w5).alloc (Nat.le_refl _) _
  have hb36 : Below w3.heap.size w3 w6 := hb35.trans (hb56.mono (by omega))
  have hb46 : Below (w3.heap.size + 1) (w3.alloc (.map #[] 0)) w6 := (by rw [s4] at hb5; exact hb5 : Below (w3.heap.size + 1) (w3.alloc (.map #[] 0)) w5).trans (hb56.mono s5)
  have hb16 : Below w1.heap.size w1 w6 := (hb2.trans (hb3.mono s2)).trans (hb36.mono (by omega))
  have hrk6 := hd1.rk.later hb16
  have hdl := HH.out.lt
  have hol := hro.lt
  have hnb : ∀ i, (Value.slice ao' l.length cap').ownBlock = some i → w2.heap.size ≤ i ∧ i < w3.heap.size := fun i e => ⟨row_base ho3 e, (K.row_lt ho3 i e).1⟩
  have hmap : w6.ownsMap Tryz.prog TIn I.ptrE w3.heap.size 0 (.map []) := K.ownsMap_block (World.ownsMap_made w3 Tryz.prog TIn I.ptrE) (hb46.block _ (by omega))
  refine ⟨⟨w5.heap.size, b, ms, ml, qv, fv, .slice ao' l.length cap', (Value.slice ao' l.length cap').ownBlock, w3.heap.size, bo, bm, g, []⟩, rfl, ?_⟩
  show Made w (w5.alloc _) b ms ml qv fv S most l _
  rw [← hw6]
  have hcf : ∀ i ∈ Loc.cfp ⟨w5.heap.size, b, ms, ml, qv, fv, .slice ao' l.length cap', (Value.slice ao' l.length cap').ownBlock, w3.heap.size, bo, bm, g, []⟩ [], i = w5.heap.size ∨ i = w3.heap.size ∨ (w2.heap.size ≤ i ∧ i < w3.heap.size) := fun i hi => by
    simp only [Loc.cfp, List.map_nil, List.append_nil, List.mem_cons, Option.mem_toList] at hi
    rcases hi with hi | hi | hi
    · exact .inl hi
    · exact .inr (.inl hi)
    · exact .inr (.inr (hnb i hi))
  refine ⟨⟨?_, hrk6, hro.later hb56, rfl, .inr ⟨rfl, K.ownsRow_block (owns_mono ho3 (Nat.zero_le _)) (fun i hi => hb36.block i (hnb i hi).2)⟩, ⟨.map [], hmap, ⟨by simp [newCh], by simp [newCh], fun k _ => rfl, rfl⟩⟩, (fun l hl => by cases hl), List.nodup_nil, (fun l hl => by cases hl), ⟨Nat.zero_le _, hm0, hm1⟩, HLe.out, HA.out.1, ?_, ?_, ?_⟩, ⟨rfl, rfl, rfl, rfl, rfl⟩, ?_, ?_⟩
  · show w6.heap[w5.heap.size]? = _
    rw [hw6]; exact heap_alloc_new w5 _
  · intro i hi ho
    have h1 := hdl i hi
    have h2 := hfp i ho
    omega
  · intro i hi hc
    have h1 := hdl i hi
    rcases hcf i hc with h2 | h2 | h2 <;> omega
  · intro i ho hc
    have h1 := hfp i ho
    have h3 := hol i ho
    rcases hcf i hc with h2 | h2 | h2 <;> omega
  · exact hd1.kp.trans (K.Kp.of_below hb16 _) (fun i hi => .inl hi)
  · rintro i (hi | hi)
    · have h1 := hfp i hi; omega
    · rcases hcf i hi with h2 | h2 | h2 <;> omega
end Go.Proofs.YtbamjfnjenmdaaaGreat.C

namespace Go.Proofs.YtbamjfnjenmdaaaGreat.C
open Go.RowKit Go.Maps Go.Shelf Go.Proofs.YtbamjfnjenmdaaaGreat
set_option linter.unusedVariables false
set_option linter.unusedSimpArgs false
set_option maxRecDepth 100000

/-- a cache of one's own -/
structure Hc (w0 w : World) (P : Loc) (S : K.Dk) (C : Ch) : Prop where
  rc : RC w P S C
  bel : Below w0.heap.size w0 w
  new : ∀ i ∈ P.fp C.L, w0.heap.size ≤ i
section
variable {w0 w w' : World} {P P' : Loc} {S S' : K.Dk} {C C' : Ch}
theorem Hc.step (h : Hc w0 w P S C) (ha : CAct w w' P P' C S' C') : Hc w0 w' P' S' C' :=
  ⟨ha.rc, h.bel.trans (ha.kp.below h.new h.bel.size), fun i hi => (ha.sub i hi).elim (h.new i) (fun hh => Nat.le_trans h.bel.size hh)⟩
theorem Hc.later (h : Hc w0 w P S C) (hb : Below w.heap.size w w') : Hc w0 w' P S C := ⟨h.rc.later hb, h.bel.trans (hb.mono h.bel.size), h.new⟩
end
/-- a disk without faults -/
theorem nf_fail {S : K.Dk} (h : S.fs = []) (k s : Int) : K.failS S k s = S ∧ K.hitF S.fs k s = false := by
  obtain ⟨n, safe, q, fs, st⟩ := S
  simp only at h
  subst h
  exact ⟨rfl, rfl⟩
theorem nf_wr {S : K.Dk} (h : S.fs = []) {s : Nat} (hs : s < S.n) {l : K.Bl} (hl : l.length = 512) : K.wrE S s l = 0 ∧ K.wrS S s l = K.wrote S s l := by
  obtain ⟨h1, h2⟩ := nf_fail h 2 s
  have hi : K.inD S.n s = true := by unfold K.inD; simp; omega
  unfold K.wrE K.wrS
  rw [if_pos hi, if_pos hi, if_pos hl, if_pos hl, h2, h1]
  simp
theorem nf_ba {S : K.Dk} (h : S.fs = []) : K.baE S = 0 ∧ K.baS S = K.barred S := by
  obtain ⟨h1, h2⟩ := nf_fail h 3 (-1)
  unfold K.baE K.baS
  rw [h2, h1]
  simp
theorem nf_rd {S : K.Dk} (h : S.fs = []) {s : Nat} (hs : s < S.n) : K.rdE S s = 0 ∧ K.rdL S s = K.look S s ∧ K.rdS S s = K.readS S := by
  obtain ⟨h1, h2⟩ := nf_fail h 1 s
  have hi : K.inD S.n s = true := by unfold K.inD; simp; omega
  unfold K.rdE K.rdL K.rdS
  rw [if_pos hi, if_pos hi, if_pos hi, h2, h1]
  simp
theorem in_nat {n s : Nat} (h : s < n) : K.inD n s = true := by unfold K.inD; simp; omega
/-- a write of a sector that has no line, where there is room -/
theorem write_room {S : K.Dk} {C : Ch} {s : Nat} {bs : K.Bl} (b : Nat) (hs : s < S.n) (hl : bs.length = 512) (hn : lineAt C.L s = none) (hr : C.L.length < C.most) :
    writeR S C s bs b = (0, S, { missC C with L := C.L ++ [⟨s, b, bs, true, isN C.notes s⟩] }) := by
  unfold writeR roomR
  have e : (missC C).L = C.L := rfl
  have e2 : (missC C).most = C.most := rfl
  rw [if_pos (in_nat hs), if_pos hl, hn]
  simp only [e, e2]
  rw [if_pos hr]
  simp [missC]
/-- a write of a sector that has no line, where a dirty line gives way -/
theorem write_full {S : K.Dk} {C : Ch} {s : Nat} {bs : K.Bl} (b : Nat) (hf : S.fs = []) (hs : s < S.n) (hl : bs.length = 512) (hn : lineAt C.L s = none) (hr : ¬ C.L.length < C.most) {l : Ln} (hfd : C.L.find? mayGo = some l) (hd : l.dirty = true) (hls : l.sec < S.n) (hll : l.dat.length = 512) :
    ∃ st, writeR S C s bs b = (0, K.wrote S l.sec l.dat, { most := C.most, notes := C.notes, L := dropL C.L l.sec ++ [⟨s, b, bs, true, isN C.notes s⟩], st := st }) := by
  obtain ⟨e1, e2⟩ := nf_wr hf hls hll
  have e : (missC C).L = C.L := rfl
  have e' : (missC C).most = C.most := rfl
  have hrm : roomR S (missC C) = (0, K.wrote S l.sec l.dat, { missC C with L := dropL C.L l.sec, st := { (missC C).st with written := K.inc (missC C).st.written, evicted := K.inc (missC C).st.evicted } }) := by
    unfold roomR
    simp only [e, e']
    rw [if_neg hr, hfd]
    simp only
    unfold gwR
    rw [if_pos hd, if_pos e1, e2]
    rfl
  refine ⟨{ (missC C).st with written := K.inc (missC C).st.written, evicted := K.inc (missC C).st.evicted }, ?_⟩
  unfold writeR
  rw [if_pos (in_nat hs), if_pos hl, hn]
  simp only [hrm, if_true]
  simp [missC]
/-- a read of a sector that has no line, where a clean line gives way -/
theorem read_full {S : K.Dk} {C : Ch} {s : Nat} (b : Nat) (hf : S.fs = []) (hs : s < S.n) (hn : lineAt C.L s = none) (hr : ¬ C.L.length < C.most) {l : Ln} (hfd : C.L.find? mayGo = some l) (hd : l.dirty = false) :
    (readR S C s b).1 = 0 ∧ (readR S C s b).2.1 = K.look S s ∧ (readR S C s b).2.2.1 = K.readS S := by
  obtain ⟨e1, e2, e3⟩ := nf_rd hf hs
  have e : (missC C).L = C.L := rfl
  have e' : (missC C).most = C.most := rfl
  have hrm : roomR S (missC C) = (0, S, { missC C with L := dropL C.L l.sec, st := { (missC C).st with evicted := K.inc (missC C).st.evicted } }) := by
    unfold roomR
    simp only [e, e']
    rw [if_neg hr, hfd]
    simp only
    unfold gwR
    rw [if_neg (by simp [hd])]
    rfl
  unfold readR
  rw [if_pos (in_nat hs), hn]
  simp only [hrm, if_true, e1, e2, e3]
  exact ⟨trivial, trivial, trivial⟩
/-- one line is written back and made safe -/
theorem settle_one {S : K.Dk} {C : Ch} {l : Ln} (hf : S.fs = []) (hl : lineAt C.L l.sec = some l) (hls : l.sec < S.n) (hll : l.dat.length = 512) :
    settleR [(l.sec : Int)] S C = (0, K.barred (K.wrote S l.sec l.dat), { C with L := cleanL C.L l.sec, st := { C.st with written := K.inc C.st.written } }) := by
  obtain ⟨e1, e2⟩ := nf_wr hf hls hll
  have hb : backs [(l.sec : Int)] S C = (0, K.wrote S l.sec l.dat, { C with L := cleanL C.L l.sec, st := { C.st with written := K.inc C.st.written } }) := by
    rw [backs_cons]
    unfold wbE wbS wbC
    rw [hl]
    simp only [e1, e2, if_true]
    rfl
  obtain ⟨e3, e4⟩ := nf_ba (S := K.wrote S l.sec l.dat) hf
  unfold settleR
  rw [hb]
  simp only [if_true, e3, e4]
theorem sortI_one (x : Int) : sortI [x] = [x] := by simp [sortI]
theorem barred_one {S : K.Dk} {p : Nat × K.Bl} (h : S.q = [p]) : (K.barred S).safe = K.upd S.safe p.1 p.2 ∧ (K.barred S).q = [] ∧ (K.barred S).n = S.n ∧ (K.barred S).fs = S.fs := by
  refine ⟨?_, rfl, rfl, rfl⟩
  simp [K.barred, K.settled, h, K.layTo]
theorem barred_two {S : K.Dk} {p p' : Nat × K.Bl} (h : S.q = [p, p']) : (K.barred S).safe = K.upd (K.upd S.safe p.1 p.2) p'.1 p'.2 ∧ (K.barred S).q = [] ∧ (K.barred S).n = S.n ∧ (K.barred S).fs = S.fs := by
  refine ⟨?_, rfl, rfl, rfl⟩
  simp [K.barred, K.settled, h, K.layTo]
/-- the chapter's heads: two lines, a note and data -/
def hL (b1 b3 : Nat) (B1 B3 : K.Bl) (d : Bool) : List Ln := [⟨0, b1, B1, d, true⟩, ⟨4, b3, B3, d, false⟩]
theorem heads_flush {S : K.Dk} {C : Ch} {b1 b3 : Nat} {B1 B2 B3 : K.Bl} (hf : S.fs = []) (hn : S.n = 8) (hq : S.q = [(3, B2)]) (hsf : S.safe = fun _ => K.z512) (hC : C.L = hL b1 b3 B1 B3 true) (l1 : B1.length = 512) (l3 : B3.length = 512) :
    ∃ S' C', flushR S C = (0, S', C') ∧ S'.fs = [] ∧ S'.n = 8 ∧ S'.q = [] ∧ S'.safe 0 = B1 ∧ S'.safe 3 = B2 ∧ S'.safe 4 = B3 ∧ C'.L = hL b1 b3 B1 B3 false ∧ C'.most = C.most ∧ C'.notes = C.notes := by
  have d1 : dlL isData C.L = [((4 : Nat) : Int)] := by
    unfold dlL
    rw [hC]
    simp [hL, isData, sortI_one]
  have s1 := settle_one (S := S) (C := C) (l := ⟨4, b3, B3, true, false⟩) hf (by rw [hC]; simp [hL, lineAt]) (by rw [hn]; show 4 < 8; omega) l3
  have eC : cleanL C.L ((4 : Nat) : Int) = [⟨0, b1, B1, true, true⟩, ⟨4, b3, B3, false, false⟩] := by rw [hC]; simp [cleanL, hL, cleaned]
  have hq2 : (K.wrote S 4 B3).q = [(3, B2), (4, B3)] := by simp [K.wrote, hq]
  obtain ⟨t1, t2, t3, t4⟩ := barred_two hq2
  obtain ⟨S2, hS2⟩ : ∃ S2, S2 = K.barred (K.wrote S 4 B3) := ⟨_, rfl⟩
  obtain ⟨C2, hC2⟩ : ∃ C2 : Ch, C2 = { C with L := cleanL C.L ((4 : Nat) : Int), st := { C.st with written := K.inc C.st.written } } := ⟨_, rfl⟩
  have eC2 : C2.L = [⟨0, b1, B1, true, true⟩, ⟨4, b3, B3, false, false⟩] := by rw [hC2]; exact eC
  have d2 : dlL isNoted C2.L = [((0 : Nat) : Int)] := by
    unfold dlL
    rw [eC2]
    simp [isNoted, sortI_one]
  have fs2 : S2.fs = [] := by rw [hS2, t4]; exact hf
  have n2 : S2.n = 8 := by rw [hS2, t3]; exact hn
  have s2 := settle_one (S := S2) (C := C2) (l := ⟨0, b1, B1, true, true⟩) fs2 (by rw [eC2]; simp [lineAt]) (by rw [n2]; show 0 < 8; omega) l1
  have eC3 : cleanL C2.L ((0 : Nat) : Int) = hL b1 b3 B1 B3 false := by rw [eC2]; simp [cleanL, hL, cleaned]
  have hq3 : (K.wrote S2 0 B1).q = [(0, B1)] := by
    have : S2.q = [] := by rw [hS2]; exact t2
    simp [K.wrote, this]
  obtain ⟨u1, u2, u3, u4⟩ := barred_one hq3
  refine ⟨K.barred (K.wrote S2 0 B1), { C2 with L := cleanL C2.L ((0 : Nat) : Int), st := { C2.st with written := K.inc C2.st.written } }, ?_, ?_, ?_, u2, ?_, ?_, ?_, eC3, by rw [hC2], by rw [hC2]⟩
  · unfold flushR
    simp only at s1 s2
    rw [d1, s1]
    simp only [if_true]
    rw [← hC2, ← hS2, show cleanL C.L ((4 : Nat) : Int) = C2.L by rw [hC2], d2, s2]
    simp
  · rw [u4]; exact fs2
  · rw [u3]; exact n2
  all_goals
    rw [u1]
    have e2 : (K.wrote S2 0 B1).safe = S2.safe := rfl
    have e3 : (K.wrote S 4 B3).safe = S.safe := rfl
    rw [e2, hS2, t1, e3, hsf]
    simp [K.upd]
end Go.Proofs.YtbamjfnjenmdaaaGreat.C
