import Derived.Test.YtbamjfnjenmdaaaGreatG23
namespace Go.Proofs.YtbamjfnjenmdaaaGreat.C
open Go.RowKit Go.Maps Go.Proofs.YtbamjfnjenmdaaaGreat
attribute [local go_sem] Oper.semAt_some
set_option linter.unusedVariables false
set_option linter.unusedSimpArgs false
set_option maxRecDepth 100000

section
variable {w w' : World} {P : Loc} {S S' : K.Dk} {C C' : Ch}
/-- lines come or go -/
theorem RC.remap (h : RC w P S C) {w4 : World} {E' : List I.Ent} {L' : List Ln}
    (hd : ∀ i, i ∈ P.dfp ∨ (i ∈ P.cfp C.L ∧ i ≠ P.bl) → w4.heap[i]? = w.heap[i]?) (hk : K.Kp w w4 (P.fp C.L))
    (hm : ∃ n D, w4.ownsMap Tryz.prog TIn I.ptrE P.bl n D ∧ I.MapOk (L'.map Ln.ent) D) (ho : I.RO w4 P.bo P.bm P.g E') (he : E'.map (·.key) = L'.map (fun l => (l.sec : Int)))
    (hE : ∀ i ∈ I.fp P.bo P.bm P.g E', i ∈ P.ofp ∨ (w.heap.size ≤ i ∧ ∀ l ∈ L', l.blk ≠ i))
    (hL : ∀ l ∈ L', l ∈ C.L ∨ (w.heap.size ≤ l.blk ∧ w4.heap[l.blk]? = some (.cells (lcells l) TLn (0, 0)) ∧ l.sec < S.n ∧ K.OkB l.dat))
    (hnd : (L'.map (·.blk)).Nodup) (hlen : L'.length ≤ C.most) : CAct w w4 P { P with E := E' } C S { C with L := L' } := by
  have ha := h.apart
  have hc : ∀ i ∈ P.cfp C.L, i ≠ P.bl → w4.heap[i]? = w.heap[i]? := fun i hi hne => hd i (.inr ⟨hi, hne⟩)
  have hcf : ∀ i ∈ P.cfp L', i ∈ P.cfp C.L ∨ (w.heap.size ≤ i ∧ ∃ l ∈ L', l.blk = i) := fun i hi => by
    simp only [Loc.cfp, List.mem_cons, List.mem_append, List.mem_map] at hi ⊢
    rcases hi with hi | hi | hi | ⟨l, hl, rfl⟩
    · exact .inl (.inl hi)
    · exact .inl (.inr (.inl hi))
    · exact .inl (.inr (.inr (.inl hi)))
    · rcases hL l hl with h1 | h1
      · exact .inl (.inr (.inr (.inr ⟨l, h1, rfl⟩)))
      · exact .inr ⟨h1.1, l, hl, rfl⟩
  obtain ⟨n, D, hm1, hm2⟩ := hm
  refine ⟨⟨(hc P.bc (by simp [Loc.cfp]) ha.1).trans h.blk, h.rk.same (fun i hi => hd i (.inl hi)), ho, he, h.nr.block (fun g hg => hc g (by simp [Loc.cfp, hg]) (fun e => ha.2.2.1 (by rw [← e]; exact hg))), ⟨D, I.ownsMap_tight hm1, hm2⟩, fun l hl => ?_, hnd, fun l hl => ?_, ⟨hlen, h.lim.2⟩, h.nl, h.nok, ?_, ?_, ?_⟩, hk, ?_, rfl, rfl⟩
  · rcases hL l hl with h1 | h1
    · exact (hc l.blk (by simp only [Loc.cfp, List.mem_cons, List.mem_append, List.mem_map]; exact .inr (.inr (.inr ⟨l, h1, rfl⟩))) (ha.2.2.2 l h1).2.1).trans (h.ln l h1)
    · exact h1.2.1
  · rcases hL l hl with h1 | h1
    · exact h.ok l h1
    · exact h1.2.2
  · intro i hi ho'
    rcases hE i ho' with h1 | h1
    · exact h.d1 i hi h1
    · have := h.rk.lt i hi; omega
  · intro i hi hc'
    rcases hcf i hc' with h1 | h1
    · exact h.d2 i hi h1
    · have := h.rk.lt i hi; omega
  · intro i hi hc'
    rcases hE i hi with h1 | h1
    · rcases hcf i hc' with h2 | h2
      · exact h.d3 i h1 h2
      · have := h.ro.lt i h1; omega
    · rcases hcf i hc' with h2 | ⟨_, l, hl, h2⟩
      · have := h.cl i h2; omega
      · exact h1.2 l hl h2
  · intro i hi
    simp only [Loc.fp, List.mem_append] at hi ⊢
    rcases hi with hi | hi | hi
    · exact .inl (.inl hi)
    · exact (hE i hi).imp (fun h1 => .inr (.inl h1)) (fun h1 => h1.1)
    · exact (hcf i hi).imp (fun h1 => .inr (.inr h1)) (fun h1 => h1.1)
theorem RC.keyE (h : RC w P S C) {s : Int} (hno : lineAt C.L s = none) : ∀ e ∈ P.E, e.key ≠ s := fun e he => by
  have h1 : e.key ∈ C.L.map (fun l => (l.sec : Int)) := by rw [← h.eq]; exact List.mem_map.2 ⟨e, he, rfl⟩
  obtain ⟨l, hl, e1⟩ := List.mem_map.1 h1
  rw [← e1]
  exact lineAt_none hno l hl
theorem RC.lenE (h : RC w P S C) : P.E.length = C.L.length := by
  have := congrArg List.length h.eq
  simpa using this
set_option maxHeartbeats 2000000 in
theorem addLine_c (h : RC w P S C) {s : Nat} (hs : s < S.n) (hno : lineAt C.L s = none) (hl : C.L.length < C.most) :
    Calls Tryz.prog 30 #[.pointer (some ⟨P.bc, 0, none⟩), .int .i64 s] w fun r w' => ∃ b P', r = .returned (.pointer (some ⟨b, 0, none⟩)) ∧ CAct w w' P P' C S { C with L := C.L ++ [newLn s b (isN C.notes s)] } := by
  have hn1 := h.rk.n1
  have hnote := isNote_c h (s := (s : Int)) (by omega)
  have H : Hid (RC w P S C) := h
  have hkey : I.wfK (s : Int) := K.wfI s (by omega)
  have hlim := h.lim
  obtain ⟨D, hm, hmo⟩ := h.lm
  have hmz : Maps.size D = C.L.length := by rw [hmo.size, List.length_map]
  rw [hmz] at hm
  -- what the map is behind the note's question and the new line
  have HM : Hid (∀ W, Below w.heap.size w W → W.ownsMap Tryz.prog TIn I.ptrE P.bl C.L.length D ∧ W.cell? ⟨P.bc, 3, none⟩ = some (.map (some P.bl))) := fun W hb => ⟨K.ownsMap_block hm (hb.block _ hm.lt), (h.later hb).c 3⟩
  have HMO : Hid (I.MapOk (C.L.map Ln.ent) D) := hmo
  have HD : Hid (IsMap D ∧ Tidy D) := ⟨hm.isMap, hm.tidy I.keyed⟩
  have hml : C.L.length < maxLen := by unfold maxLen; omega
  have HNO : Hid (lineAt C.L s = none) := hno
  -- the order's Add
  have HADD : Hid (∀ W W3, Below w.heap.size w W → W.grownBy W3 (some P.bl) → W3.cell? ⟨P.bc, 4, none⟩ = some (.pointer (some ⟨P.bo, 0, none⟩)) ∧ Calls Tryz.prog 56 #[.pointer (some ⟨P.bo, 0, none⟩), .int .i64 s] W3 fun r w' => r = .returned (.bool true) ∧ ∃ p, I.Act W3 w' P.bo P.bm P.g P.E (P.E ++ [⟨(s : Int), 0, p⟩])) := fun W W3 hb hg => by
    have hW := h.later hb
    have ha := hW.apart
    have hne : ∀ i ∈ P.ofp, i ≠ P.bl := fun i hi e => h.d3 i hi (by rw [e]; simp [Loc.cfp])
    have hro : I.RO W3 P.bo P.bm P.g P.E := hW.ro.same fun i hi => hg.block i (hW.ro.lt i hi) (fun e => by cases e; exact hne _ hi rfl)
    have hbc : W3.heap[P.bc]? = some (.cells (ccells P C) TCa (0, 0)) := (hg.block P.bc (hW.cl _ (by simp [Loc.cfp])) (fun e => ha.1 (Option.some.inj e))).trans hW.blk
    exact ⟨(K.cell_of hbc).trans rfl, I.add_new hro hkey (h.keyE hno) (by rw [h.lenE]; exact hml)⟩
  clear h hm hmo hno
  go_enter Tryz.func30, Tryz.ntmps30
  go_wp2_with (first | (go_at_call 55; refine hnote.mono ?_; rintro e w1 ⟨rfl, hb1⟩; have HB1 : Hid (Below w.heap.size w w1) := hb1; have HB2 : Hid (Below w.heap.size w (w1.alloc (.cells (Tryz.zeroCells84.setIfInBounds 513 (.bool (isN C.notes s))) TLn))) := hb1.alloc hb1.size _; obtain ⟨hM1, c3⟩ := HM.out (w1.alloc (.cells (Tryz.zeroCells84.setIfInBounds 513 (.bool (isN C.notes s))) TLn)) HB2.out; have HM2 : Hid ((w1.alloc (.cells (Tryz.zeroCells84.setIfInBounds 513 (.bool (isN C.notes s))) TLn)).ownsMap Tryz.prog TIn I.ptrE P.bl C.L.length D) := hM1; clear hb1 hM1 HM) | (at_mapUpdate; refine wpList_mapUpdate_own _ rfl _ _ _ TLm rfl TIn TLp I.keyed Tryz.underlying86 _ P.bl C.L.length D rfl HM2.out hml _ _ (I.kl (s : Int)) rfl rfl (I.keyAt hkey) (.lit (.int .i64 w1.heap.size)) [] rfl ?_; intro w3 hown3 hgrow3; obtain ⟨c4, hadd⟩ := HADD.out (w1.alloc (.cells (Tryz.zeroCells84.setIfInBounds 513 (.bool (isN C.notes s))) TLn)) w3 HB2.out hgrow3) | (go_at_call 56; refine hadd.mono ?_; rintro e w4 ⟨rfl, p, hact⟩))
  go_ret
  refine ⟨w1.heap.size, { P with E := P.E ++ [⟨(s : Int), 0, p⟩] }, rfl, ?_⟩
  have h := H.out
  have HLN : Hid ((w1.alloc (.cells (Tryz.zeroCells84.setIfInBounds 513 (.bool (isN C.notes s))) TLn)).heap[w1.heap.size]? = some (.cells (lcells (newLn s w1.heap.size (isN C.notes s))) TLn (0, 0))) := by rw [← line_cells]; exact heap_alloc_new w1 _
  have HSZ : Hid ((w1.alloc (.cells (Tryz.zeroCells84.setIfInBounds 513 (.bool (isN C.notes s))) TLn)).heap.size = w1.heap.size + 1) := World.size_alloc _ _
  obtain ⟨w2, hw2⟩ : ∃ w2, w2 = w1.alloc (.cells (Tryz.zeroCells84.setIfInBounds 513 (.bool (isN C.notes s))) TLn) := ⟨_, rfl⟩
  rw [← hw2] at HLN HSZ HB2 hgrow3
  clear hw2
  have hW := h.later HB2.out
  have ha := h.apart
  have s1 := HB1.out.size
  have s2 := HSZ.out
  have hofp : ∀ i ∈ P.ofp, i < w.heap.size := h.ro.lt
  have hbl : P.bl < w.heap.size := h.cl _ (by simp [Loc.cfp])
  have hob : ∀ i ∈ P.ofp, i ≠ P.bl := fun i hi e => h.d3 i hi (by rw [e]; simp [Loc.cfp])
  have hst : ∀ i, i < w2.heap.size → i ∉ P.ofp → i ≠ P.bl → w4.heap[i]? = w2.heap[i]? := fun i hi h1 h2 => (hact.kp.block i (Nat.lt_of_lt_of_le hi hgrow3.size) h1).trans (hgrow3.block i hi (fun e => by cases e; exact h2 rfl))
  refine h.remap ?_ ?_ ⟨_, _, K.ownsMap_block hown3 (hact.kp.block _ (Nat.lt_of_lt_of_le (by omega) hgrow3.size) (fun hh => hob _ hh rfl)), ?_⟩ hact.ro ?_ ?_ ?_ ?_ ?_
  · rintro i (hi | ⟨hi, hne⟩)
    · have h1 := h.rk.lt i hi
      exact (hst i (by omega) (h.d1 i hi) (fun e => h.d2 i hi (by rw [e]; simp [Loc.cfp]))).trans (HB2.out.block i h1)
    · have h1 := h.cl i hi
      exact (hst i (by omega) (fun ho => h.d3 i ho hi) hne).trans (HB2.out.block i h1)
  · refine ((K.Kp.of_below HB2.out (P.fp C.L)).grown hgrow3 (fun k e => by cases e; exact .inl (by simp [Loc.fp, Loc.cfp]))).trans (kpI hact.kp) (fun i hi => .inl (by simp only [Loc.fp, List.mem_append]; exact .inr (.inl hi)))
  · have := HMO.out.put HD.out.1 HD.out.2 hkey (fun e he => by obtain ⟨l, hl', rfl⟩ := List.mem_map.1 he; exact lineAt_none HNO.out l hl') 0 w1.heap.size
    rw [List.map_append]
    exact this
  · rw [List.map_append, List.map_append, h.eq]; rfl
  · intro i hi
    rcases hact.sub i hi with h1 | h1
    · exact .inl h1
    · have h3 := hgrow3.size
      refine .inr ⟨by omega, fun l hl' => ?_⟩
      rcases List.mem_append.1 hl' with h4 | h4
      · have := h.cl l.blk (by simp only [Loc.cfp, List.mem_cons, List.mem_append, List.mem_map]; exact .inr (.inr (.inr ⟨l, h4, rfl⟩)))
        omega
      · simp at h4; subst h4; simp only [newLn]; omega
  · intro l hl'
    rcases List.mem_append.1 hl' with h4 | h4
    · exact .inl h4
    · simp at h4; subst h4
      refine .inr ⟨s1, ?_, hs, K.okZ⟩
      exact (hst _ (by simp only [newLn]; omega) (fun ho => by have := hofp _ ho; simp only [newLn] at this; omega) (by simp only [newLn]; omega)).trans HLN.out
  · rw [List.map_append, List.nodup_append]
    refine ⟨h.nd, by simp, fun a ha' b hb e => ?_⟩
    obtain ⟨l, hl', rfl⟩ := List.mem_map.1 ha'
    simp [newLn] at hb
    have := h.cl l.blk (by simp only [Loc.cfp, List.mem_cons, List.mem_append, List.mem_map]; exact .inr (.inr (.inr ⟨l, hl', rfl⟩)))
    omega
  · simp; omega
end
end Go.Proofs.YtbamjfnjenmdaaaGreat.C

namespace Go.Proofs.YtbamjfnjenmdaaaGreat.C
open Go.RowKit Go.Maps Go.Proofs.YtbamjfnjenmdaaaGreat
attribute [local go_sem] Oper.semAt_some
set_option linter.unusedVariables false
set_option linter.unusedSimpArgs false
set_option maxRecDepth 100000

theorem failS_n (S : K.Dk) (k : Int) (s : Int) : (K.failS S k s).n = S.n := by
  unfold K.failS
  try split
  all_goals rfl
theorem wrS_n (S : K.Dk) (s : Int) (l : List Nat) : (K.wrS S s l).n = S.n := by
  unfold K.wrS
  split
  · split
    · split
      · split
        · exact failS_n _ _ _
        · exact failS_n _ _ _
      · exact failS_n _ _ _
    · rfl
  · rfl
theorem rdS_n (S : K.Dk) (s : Int) : (K.rdS S s).n = S.n := by
  unfold K.rdS
  split
  · split
    · exact failS_n _ _ _
    · exact failS_n _ _ _
  · rfl
theorem baS_n (S : K.Dk) : (K.baS S).n = S.n := by
  unfold K.baS
  split
  · exact failS_n _ _ _
  · exact failS_n _ _ _
theorem wrE_two {S : K.Dk} {s : Nat} {l : List Nat} (hs : s < S.n) (hl : K.OkB l) : K.wrE S s l = 0 ∨ K.wrE S s l = 33 := by
  unfold K.wrE
  rw [if_pos (by unfold K.inD; simp; omega), if_pos hl.len]
  split
  · exact .inr rfl
  · exact .inl rfl
theorem baE_two (S : K.Dk) : K.baE S = 0 ∨ K.baE S = 33 := by
  unfold K.baE
  split
  · exact .inr rfl
  · exact .inl rfl
section
variable {w w' : World} {P : Loc} {S S' : K.Dk} {C C' : Ch}
theorem RC.drew (h : RC w P S C) : RC w.drew P S C := h.same fun _ _ => rfl
theorem CAct.drew {P' : Loc} (h : CAct w.drew w' P P' C S' C') : CAct w w' P P' C S' C' :=
  ⟨h.rc, ⟨h.kp.os, h.kp.tape, h.kp.output, h.kp.size, h.kp.block⟩, h.sub, h.bc, h.bd⟩
theorem RC.lcell (h : RC w P S C) {l : Ln} (hl : l ∈ C.L) (j : Nat) : w.cell? ⟨l.blk, j, none⟩ = (lcells l)[j]? := K.cell_of (h.ln l hl)
theorem lcells_dirty {l : Ln} (h : K.OkB l.dat) : (lcells l)[512]? = some (.bool l.dirty) := by
  unfold lcells
  rw [List.getElem?_toArray, List.getElem?_append_right (by simp [h.len])]
  simp [h.len]
theorem lcells_note {l : Ln} (h : K.OkB l.dat) : (lcells l)[513]? = some (.bool l.note) := by
  unfold lcells
  rw [List.getElem?_toArray, List.getElem?_append_right (by simp [h.len])]
  simp [h.len]
theorem lcells_dat {l : Ln} (h : K.OkB l.dat) {j : Nat} {v : Value} (hj : (l.dat.map bv)[j]? = some v) : (lcells l)[j]? = some v := by
  unfold lcells
  rw [List.getElem?_toArray, List.getElem?_append_left (List.getElem?_eq_some_iff.1 hj).1]
  exact hj
theorem lcells_set {l : Ln} (h : K.OkB l.dat) (d : Bool) : (lcells l).setIfInBounds 512 (.bool d) = lcells { l with dirty := d } := by
  unfold lcells
  have : (List.map bv l.dat).length = 512 := by simp [h.len]
  apply Array.ext'
  rw [Array.toList_setIfInBounds]
  simp only
  rw [List.set_append, if_neg (by omega), this]
  rfl
def cleaned (l : Ln) : Ln := { l with dirty := false }
def writtenC (C : Ch) (L1 : List Ln) (l : Ln) (L2 : List Ln) : Ch := { C with L := L1 ++ cleaned l :: L2, st := { C.st with written := K.inc C.st.written } }
set_option maxHeartbeats 2000000 in
/-- a line is written back -/
theorem writeBack_c (h : RC w P S C) (hf : K.FsOk S.fs) (hq : S.q.length < 1048576) {L1 L2 : List Ln} {l : Ln} (hL : C.L = L1 ++ l :: L2) :
    Calls Tryz.prog 43 #[.pointer (some ⟨P.bc, 0, none⟩), .int .i64 l.sec] w fun r w' => r = .returned (.int .i64 (if K.wrE S l.sec l.dat = 0 then 0 else 33)) ∧ ∃ P', CAct w w' P P' C (K.wrS S l.sec l.dat) (if K.wrE S l.sec l.dat = 0 then writtenC C L1 l L2 else C) := by
  have hm : l ∈ C.L := by rw [hL]; simp
  have hok := h.ok l hm
  have hwf := h.wf hm
  have hlk := h.look hwf
  have hat : lineAt C.L l.sec = some l := by
    cases e : lineAt C.L l.sec with
    | none => exact absurd rfl (lineAt_none e l hm)
    | some x =>
      obtain ⟨hx, hxs⟩ := lineAt_mem e
      congr 1
      have hd := h.sd
      obtain ⟨i, hi, ei⟩ := List.getElem_of_mem hx
      obtain ⟨j, hj, ej⟩ := List.getElem_of_mem hm
      have : i = j := (List.getElem_inj (h₀ := by simpa using hi) (h₁ := by simpa using hj) hd).1 (by simp [ei, ej, hxs])
      subst this
      rw [← ei, ej]
  rw [hat] at hlk
  simp only [linePtr] at hlk
  have c3 : w.cell? ⟨P.bc, 3, none⟩ = some (.map (some P.bl)) := h.c 3
  have c0 : w.cell? ⟨P.bc, 0, none⟩ = some (.pointer (some ⟨P.bd, 0, none⟩)) := h.c 0
  have hbl : l.blk ∈ P.cfp C.L := by simp only [Loc.cfp, List.mem_cons, List.mem_append, List.mem_map]; exact .inr (.inr (.inr ⟨l, hm, rfl⟩))
  have hwr := K.write_gen h.drew.rk hf hq l.sec (l := l.dat) hok.2.lt (m := 512) hok.2.len (by omega) (sb := l.blk) (so := 0) (cap := 512) (fun j v hj => by rw [Nat.zero_add]; exact (h.drew.lcell hm j).trans (lcells_dat hok.2 hj)) (fun hd => h.d2 _ hd hbl)
  have hn := wrS_n S l.sec l.dat
  have HW : Hid (Calls Tryz.prog 64 #[.pointer (some ⟨P.bd, 0, none⟩), .int .i64 l.sec, .slice (some ⟨l.blk, 0, none⟩) 512 512] w.drew fun r w' => r = .returned (.int .i64 (K.wrE S l.sec l.dat)) ∧ ∃ P', CAct w w' P P' C (K.wrS S l.sec l.dat) C ∧ w'.cell? ⟨P.bc, 0, none⟩ = some (.pointer (some ⟨P.bd, 0, none⟩))) := by
    refine hwr.mono ?_
    rintro r w' ⟨rfl, qv', fv1, ha⟩
    have hc := (h.drew.disk hn ha).drew
    exact ⟨rfl, _, hc, by have := hc.rc.c 0; rw [hc.bc] at this; rw [this]; rfl⟩
  have HFin : Hid (∀ (w1 : World) (P1 : Loc) (S1 : K.Dk), CAct w w1 P P1 C S1 C → w1.frozen? ⟨l.blk, 512, none⟩ = false ∧ (∃ x, w1.cell? ⟨l.blk, 512, none⟩ = some x) ∧ (w1.setCell ⟨l.blk, 512, none⟩ (.bool false)).cell? ⟨P.bc, 8, none⟩ = some (.int .u64 C.st.written) ∧ (w1.setCell ⟨l.blk, 512, none⟩ (.bool false)).frozen? ⟨P.bc, 8, none⟩ = false ∧ CAct w ((w1.setCell ⟨l.blk, 512, none⟩ (.bool false)).setCell ⟨P.bc, 8, none⟩ (.int .u64 (K.inc C.st.written))) P P1 C S1 (writtenC C L1 l L2)) := fun w1 P1 S1 ha => by
    have hln := ha.rc.ln l hm
    have hset := K.blk_set hln 512 (.bool false)
    rw [lcells_set hok.2] at hset
    have hk : K.Kp w1 (w1.setCell ⟨l.blk, 512, none⟩ (.bool false)) [l.blk] := (K.Kp.refl w1 _).set (.inl (by simp)) 512 _
    have a2 := ha.rc.line hL (l' := cleaned l) hset rfl rfl hok.2 hk
    have hbc : P1.bc = P.bc := ha.bc
    have a3 := a2.rc.stat 8 (.int .u64 (K.inc C.st.written)) { C.st with written := K.inc C.st.written } rfl
    refine ⟨K.frozen_of hln, ⟨_, (K.cell_of hln).trans (lcells_dirty hok.2)⟩, ?_, ?_, ?_⟩
    · have := a2.rc.c 8; rw [hbc] at this; exact this
    · have := a2.rc.fz 8; rw [hbc] at this; exact this
    · rw [hbc] at a3
      exact (ha.trans a2).trans a3
  have h2 := wrE_two hok.1 hok.2
  clear h hwr hat hL hm hbl hwf hok hn hf hq
  rcases h2 with he | he
  · simp only [he, if_true] at HW ⊢
    go_enter Tryz.func43, Tryz.ntmps43
    go_wp2
    go_region_held3 (fun w' => w'.cell? ⟨P.bc, 0, none⟩ = some (.pointer (some ⟨P.bd, 0, none⟩))) (first | go_keep | exact k0) (first | (go_at_call 64; refine HW.out.mono ?_; rintro r w1 ⟨rfl, P1, ha, k0⟩; obtain ⟨f1, ⟨x1, k1⟩, k2, f2, hfin⟩ := HFin.out w1 P1 _ ha; have HF : Hid _ := hfin; clear hfin HFin ha))
    go_wp2
    go_ret
    exact ⟨rfl, P1, HF.out⟩
  · simp only [he, show ((33 : Int) = 0) = False by simp, if_false] at HW ⊢
    go_enter Tryz.func43, Tryz.ntmps43
    go_wp2
    go_region_held3 (fun w' => w'.cell? ⟨P.bc, 0, none⟩ = some (.pointer (some ⟨P.bd, 0, none⟩))) (first | go_keep | exact k0) (first | (go_at_call 64; refine HW.out.mono ?_; rintro r w1 ⟨rfl, P1, ha, k0⟩))
    go_wp2
    go_ret
    exact ⟨rfl, P1, ha⟩
end
end Go.Proofs.YtbamjfnjenmdaaaGreat.C
