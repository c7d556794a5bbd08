import Derived.Test.YtbamjfnjenmdaaaGreatG50
namespace Go.Proofs.YtbamjfnjenmdaaaGreat.C
open Go.RowKit Go.Maps Go.Shelf Go.Proofs.YtbamjfnjenmdaaaGreat
set_option linter.unusedVariables false
set_option linter.unusedSimpArgs false
set_option maxRecDepth 100000

section
variable {w w' : World} {P : Loc} {S S' : K.Dk} {C C' : Ch}
/-- no block of the cache's is a row of slices -/
theorem RC.noY (h : RC w P S C) {g : Nat} (hg : g ∈ P.fp C.L) (cs : Array Value) (fr : Nat × Nat) : w.heap[g]? ≠ some (.cells cs TBy fr) := by
  intro hb
  simp only [Loc.fp, List.mem_append] at hg
  rcases hg with hg | hg | hg
  · obtain ⟨D, ⟨es, ck, hm, _⟩, _⟩ := h.rk.sm
    obtain ⟨D', ⟨es', ck', hm', _⟩, _⟩ := h.rk.lm
    simp only [Loc.dfp, K.fp, List.mem_cons, List.mem_append, Option.mem_toList] at hg
    rcases hg with rfl | rfl | rfl | hg | hg
    · rw [h.rk.blk] at hb; simp at hb; exact absurd hb.2.1 (by decide)
    · rw [hm] at hb; cases hb
    · rw [hm'] at hb; cases hb
    · obtain ⟨_, cs', h1⟩ := K.row_lt h.rk.qr _ hg; rw [h1] at hb; simp at hb; exact absurd hb.2.1 (by decide)
    · obtain ⟨_, cs', h1⟩ := K.row_lt h.rk.fr _ hg; rw [h1] at hb; simp at hb; exact absurd hb.2.1 (by decide)
  · obtain ⟨nx, pv, hr, hgp, hp⟩ := h.ro.rg
    obtain ⟨n, D, ⟨es, ck, hm, _⟩, _⟩ := h.ro.mp
    simp only [Loc.ofp, I.fp, List.mem_cons, List.mem_map] at hg
    rcases hg with rfl | rfl | rfl | ⟨e, he, rfl⟩
    · rw [h.ro.ord] at hb; simp at hb; exact absurd hb.2.1 (by decide)
    · rw [hm] at hb; cases hb
    · rw [hgp] at hb; simp [I.plc] at hb; exact absurd hb.2.1 (by decide)
    · rw [hp e he] at hb; simp [I.plc] at hb; exact absurd hb.2.1 (by decide)
  · obtain ⟨D, ⟨es, ck, hm, _⟩, _⟩ := h.lm
    simp only [Loc.cfp, List.mem_cons, List.mem_append, List.mem_map, Option.mem_toList] at hg
    rcases hg with rfl | rfl | hg | ⟨l, hl, rfl⟩
    · rw [h.blk] at hb; simp at hb; exact absurd hb.2.1 (by decide)
    · rw [hm] at hb; cases hb
    · obtain ⟨_, cs', h1⟩ := h.nr.lt _ hg; rw [h1] at hb; simp at hb; exact absurd hb.2.1 (by decide)
    · rw [h.ln l hl] at hb; simp at hb; exact absurd hb.2.1 (by decide)
/-- nor one of rows of them -/
theorem RC.noZ (h : RC w P S C) {g : Nat} (hg : g ∈ P.fp C.L) (cs : Array Value) (fr : Nat × Nat) : w.heap[g]? ≠ some (.cells cs TBs fr) := by
  intro hb
  simp only [Loc.fp, List.mem_append] at hg
  rcases hg with hg | hg | hg
  · obtain ⟨D, ⟨es, ck, hm, _⟩, _⟩ := h.rk.sm
    obtain ⟨D', ⟨es', ck', hm', _⟩, _⟩ := h.rk.lm
    simp only [Loc.dfp, K.fp, List.mem_cons, List.mem_append, Option.mem_toList] at hg
    rcases hg with rfl | rfl | rfl | hg | hg
    · rw [h.rk.blk] at hb; simp at hb; exact absurd hb.2.1 (by decide)
    · rw [hm] at hb; cases hb
    · rw [hm'] at hb; cases hb
    · obtain ⟨_, cs', h1⟩ := K.row_lt h.rk.qr _ hg; rw [h1] at hb; simp at hb; exact absurd hb.2.1 (by decide)
    · obtain ⟨_, cs', h1⟩ := K.row_lt h.rk.fr _ hg; rw [h1] at hb; simp at hb; exact absurd hb.2.1 (by decide)
  · obtain ⟨nx, pv, hr, hgp, hp⟩ := h.ro.rg
    obtain ⟨n, D, ⟨es, ck, hm, _⟩, _⟩ := h.ro.mp
    simp only [Loc.ofp, I.fp, List.mem_cons, List.mem_map] at hg
    rcases hg with rfl | rfl | rfl | ⟨e, he, rfl⟩
    · rw [h.ro.ord] at hb; simp at hb; exact absurd hb.2.1 (by decide)
    · rw [hm] at hb; cases hb
    · rw [hgp] at hb; simp [I.plc] at hb; exact absurd hb.2.1 (by decide)
    · rw [hp e he] at hb; simp [I.plc] at hb; exact absurd hb.2.1 (by decide)
  · obtain ⟨D, ⟨es, ck, hm, _⟩, _⟩ := h.lm
    simp only [Loc.cfp, List.mem_cons, List.mem_append, List.mem_map, Option.mem_toList] at hg
    rcases hg with rfl | rfl | hg | ⟨l, hl, rfl⟩
    · rw [h.blk] at hb; simp at hb; exact absurd hb.2.1 (by decide)
    · rw [hm] at hb; cases hb
    · obtain ⟨_, cs', h1⟩ := h.nr.lt _ hg; rw [h1] at hb; simp at hb; exact absurd hb.2.1 (by decide)
    · rw [h.ln l hl] at hb; simp at hb; exact absurd hb.2.1 (by decide)
end
section
variable {w0 W W' : World} {B bc bd kb n i : Nat} {P P' : Loc} {S S' : K.Dk} {C C' : Ch} {av bw av' bw' sv v' : Value} {A A' : List Be} {G : Nat → K.Bl} {SS : List Se}
theorem Sn.act (h : Sn B W bw sv SS) (hrc : RC W P S C) (ha : CAct W W' P P' C S' C') : Sn B W' bw sv SS := by
  refine ⟨K.ownsRow_block h.row fun g hg => ?_, fun e he => K.ownsRow_block (h.inn e he) fun g hg => ?_, fun e he d hd => ha.row hrc (h.dat e he d hd), h.two, h.far⟩
  · obtain ⟨hl, cs, hc⟩ := K.row_lt h.row g hg
    exact ha.kp.block g hl (fun hm => hrc.noZ hm cs _ hc)
  · obtain ⟨hl, cs, hc⟩ := K.row_lt (h.inn e he) g hg
    exact ha.kp.block g hl (fun hm => hrc.noY hm cs _ hc)
/-- bytes are put into the book -/
theorem Sn.putB (h : Sn B W bw sv SS) (hb : Bk W kb av bw A) (hk : K.Kp W W' (bfp0 kb av bw)) {v : Value} {m : Nat} {xs : List Value} (hv : W.ownsRow 0 TB8 1 v m xs) (hsub : ∀ x ∈ bfp kb av' bw' A', x ∈ bfp kb av bw A ∨ W.heap.size ≤ x ∨ v.ownBlock = some x) : Sn B W' bw' sv SS := by
  have hkb := hb.blk
  have key : ∀ {T : TypeId} {B m : Nat} {u : Value} {xs : List Value}, W.ownsRow B T 1 u m xs → T ≠ TBk → T ≠ TIn → (∀ g, u.ownBlock = some g → bw.ownBlock ≠ some g) → W'.ownsRow B T 1 u m xs := fun {T B m u xs} ho h1 h2 h3 => K.ownsRow_block ho fun g hg => by
    obtain ⟨hl, cs, hc⟩ := K.row_lt ho g hg
    refine hk.block g hl (fun hm => ?_)
    simp only [bfp0, List.mem_cons, List.mem_append, Option.mem_toList] at hm
    rcases hm with e | e | e
    · rw [e, hkb] at hc; simp at hc; exact h1 hc.2.symm
    · obtain ⟨_, cs', hc'⟩ := K.row_lt hb.ra g e; rw [hc] at hc'; simp at hc'; exact h2 hc'.2
    · exact h3 g hg e
  have ty : ∀ {T T' : TypeId} {B B' m m' : Nat} {u u' : Value} {xs xs' : List Value}, W.ownsRow B T 1 u m xs → W.ownsRow B' T' 1 u' m' xs' → T ≠ T' → ∀ g, u.ownBlock = some g → u'.ownBlock ≠ some g := fun {T T' B B' m m' u u' xs xs'} h1 h2 hne g e1 e2 => by
    obtain ⟨_, cs, hc⟩ := K.row_lt h1 g e1
    obtain ⟨_, cs', hc'⟩ := K.row_lt h2 g e2
    rw [hc] at hc'
    simp at hc'
    exact hne hc'.2
  refine ⟨key h.row (by decide) (by decide) (ty h.row hb.rb (by decide)), fun e he => key (h.inn e he) (by decide) (by decide) (h.far e he), fun e he d hd => key (h.dat e he d hd) (by decide) (by decide) (ty (h.dat e he d hd) hb.rb (by decide)), h.two, fun e he g hg hbw => ?_⟩
  have hm : g ∈ bfp kb av' bw' A' := by simp [bfp, hbw]
  have hlt := (K.row_lt (h.inn e he) g hg).1
  rcases hsub g hm with h1 | h1 | h1
  · simp only [bfp, List.mem_cons, List.mem_append, List.mem_flatMap, Option.mem_toList] at h1
    rcases h1 with e1 | e1 | e1 | ⟨a, ha, e1⟩
    · obtain ⟨_, cs, hc⟩ := K.row_lt (h.inn e he) g hg; rw [e1, hkb] at hc; simp at hc; exact absurd hc.2 (by decide)
    · exact ty (h.inn e he) hb.ra (by decide) g hg e1
    · exact h.far e he g hg e1
    · exact ty (h.inn e he) (hb.dat a ha) (by decide) g hg e1
  · omega
  · exact ty (h.inn e he) hv (by decide) g hg h1
/-- one sector's list is another one -/
theorem Sn.upd (h : Sn B W bw sv SS) {x : Nat} {e : Se} (hx : SS[x]? = some e) {E' : List (Value × K.Bl)} (hsame : ∀ g, g < W.heap.size → sv.ownBlock ≠ some g → e.1.ownBlock ≠ some g → W'.heap[g]? = W.heap[g]?)
    (hrow : W'.ownsRow B TBs 1 sv SS.length ((SS.map (·.1)).set x v')) (hinn : W'.ownsRow B TBy 1 v' E'.length (E'.map (·.1))) (hdat : ∀ d ∈ E', W'.ownsRow 0 TB8 1 d.1 512 (d.2.map bv)) (hown : ∀ g, v'.ownBlock = some g → e.1.ownBlock = some g ∨ W.heap.size ≤ g) (hbw : ∀ g, bw.ownBlock = some g → g < W.heap.size) : Sn B W' bw sv (SS.set x (v', E')) := by
  have hxl : x < SS.length := (List.getElem?_eq_some_iff.1 hx).1
  have hxe : SS[x] = e := (List.getElem?_eq_some_iff.1 hx).2
  have hem : e ∈ SS := List.mem_of_getElem? hx
  have ty : ∀ {T T' : TypeId} {B B' m m' : Nat} {u u' : Value} {xs xs' : List Value}, W.ownsRow B T 1 u m xs → W.ownsRow B' T' 1 u' m' xs' → T ≠ T' → ∀ g, u.ownBlock = some g → u'.ownBlock ≠ some g := fun {T T' B B' m m' u u' xs xs'} h1 h2 hne g e1 e2 => by
    obtain ⟨_, cs, hc⟩ := K.row_lt h1 g e1
    obtain ⟨_, cs', hc'⟩ := K.row_lt h2 g e2
    rw [hc] at hc'
    simp at hc'
    exact hne hc'.2
  have htwo := List.pairwise_iff_getElem.1 h.two
  have hsep : ∀ (j : Nat) (hj : j < SS.length), j ≠ x → ∀ g, SS[j].1.ownBlock = some g → e.1.ownBlock ≠ some g := fun j hj hne g h1 h2 => by
    rcases Nat.lt_or_gt_of_ne hne with hlt | hlt
    · exact htwo j x hj hxl hlt g h1 (by rw [hxe]; exact h2)
    · exact htwo x j hxl hj hlt g (by rw [hxe]; exact h2) h1
  have hin : ∀ a ∈ SS.set x (v', E'), a = (v', E') ∨ ∃ (j : Nat) (hj : j < SS.length), j ≠ x ∧ a = SS[j] := fun a ha => by
    obtain ⟨j, hj, e1⟩ := List.getElem_of_mem ha
    rw [List.length_set] at hj
    by_cases hjx : j = x
    · subst hjx
      rw [List.getElem_set_self] at e1
      exact .inl e1.symm
    · rw [List.getElem_set_ne (Ne.symm hjx)] at e1
      exact .inr ⟨j, hj, hjx, e1.symm⟩
  refine ⟨by rw [List.length_set, List.map_set]; exact hrow, fun a ha => ?_, fun a ha d hd => ?_, ?_, fun a ha g hg hbg => ?_⟩
  · rcases hin a ha with rfl | ⟨j, hj, hne, rfl⟩
    · exact hinn
    · have hm := List.getElem_mem hj
      exact K.ownsRow_block (h.inn _ hm) fun g hg => hsame g (K.row_lt (h.inn _ hm) g hg).1 (fun e1 => ty (h.inn _ hm) h.row (by decide) g hg e1) (hsep j hj hne g hg)
  · rcases hin a ha with rfl | ⟨j, hj, hne, rfl⟩
    · exact hdat d hd
    · have hm := List.getElem_mem hj
      exact K.ownsRow_block (h.dat _ hm d hd) fun g hg => hsame g (K.row_lt (h.dat _ hm d hd) g hg).1 (fun e1 => ty (h.dat _ hm d hd) h.row (by decide) g hg e1) (fun e1 => ty (h.dat _ hm d hd) (h.inn e hem) (by decide) g hg e1)
  · rw [List.pairwise_iff_getElem]
    intro j k hj hk hjk g h1 h2
    have hj' : j < SS.length := by rwa [List.length_set] at hj
    have hk' : k < SS.length := by rwa [List.length_set] at hk
    by_cases hjx : j = x
    · subst hjx
      rw [List.getElem_set_self] at h1
      rw [List.getElem_set_ne (by omega)] at h2
      rcases hown g h1 with h3 | h3
      · exact hsep k hk' (by omega) g h2 h3
      · have := (K.row_lt (h.inn _ (List.getElem_mem hk')) g h2).1; omega
    · rw [List.getElem_set_ne (Ne.symm hjx)] at h1
      by_cases hkx : k = x
      · subst hkx
        rw [List.getElem_set_self] at h2
        rcases hown g h2 with h3 | h3
        · exact hsep j hj' (by omega) g h1 h3
        · have := (K.row_lt (h.inn _ (List.getElem_mem hj')) g h1).1; omega
      · rw [List.getElem_set_ne (Ne.symm hkx)] at h2
        exact htwo j k hj' hk' hjk g h1 h2
  · rcases hin a ha with rfl | ⟨j, hj, hne, rfl⟩
    · rcases hown g hg with h3 | h3
      · exact h.far e hem g h3 hbg
      · have := hbw g hbg; omega
    · exact h.far _ (List.getElem_mem hj) g hg hbg
/-- what is none of the cache's and none of the book's is changed -/
theorem Kpr.kept (h : Kpr w0 W bc bd kb n i P S C av bw A G) {F : List Nat} (hk : K.Kp W W' F) (h1 : ∀ x ∈ F, x ∉ P.fp C.L ∧ x ∉ bfp kb av bw A ∧ w0.heap.size ≤ x) : Kpr w0 W' bc bd kb n i P S C av bw A G :=
  ⟨⟨h.hc.rc.kept hk (fun x hx hm => (h1 x hm).1 hx), h.hc.bel.trans (hk.below (fun x hx => (h1 x hx).2.2) h.hc.bel.size), h.hc.new⟩, h.bk.kept hk (fun x hx hm => (h1 x hm).2.1 hx), h.bn, h.fs, h.ql, h.al, h.gd, h.eq, h.nn, h.ec, h.ed⟩
/-- the rows of what each sector had are none of the cache's and none of the book's -/
theorem Sn.apart (h : Sn B W bw sv SS) (hk : Kpr w0 W bc bd kb n i P S C av bw A G) (hB : w0.heap.size ≤ B) : (∀ g, sv.ownBlock = some g → g ∉ P.fp C.L ∧ g ∉ bfp kb av bw A ∧ w0.heap.size ≤ g) ∧ ∀ e ∈ SS, ∀ g, e.1.ownBlock = some g → g ∉ P.fp C.L ∧ g ∉ bfp kb av bw A ∧ w0.heap.size ≤ g := by
  have hb := hk.bk
  have nb : ∀ {T : TypeId} {m : Nat} {u : Value} {xs : List Value}, W.ownsRow B T 1 u m xs → T ≠ TBk → T ≠ TIn → T ≠ TB8 → (∀ g, u.ownBlock = some g → bw.ownBlock ≠ some g) → ∀ g, u.ownBlock = some g → g ∉ bfp kb av bw A := fun {T m u xs} ho n1 n2 n3 n4 g hg hm => by
    obtain ⟨_, cs, hc⟩ := K.row_lt ho g hg
    simp only [bfp, List.mem_cons, List.mem_append, List.mem_flatMap, Option.mem_toList] at hm
    rcases hm with e1 | e1 | e1 | ⟨a, ha, e1⟩
    · rw [e1, hb.blk] at hc; simp at hc; exact n1 hc.2.symm
    · obtain ⟨_, cs', hc'⟩ := K.row_lt hb.ra g e1; rw [hc] at hc'; simp at hc'; exact n2 hc'.2
    · exact n4 g hg e1
    · obtain ⟨_, cs', hc'⟩ := K.row_lt (hb.dat a ha) g e1; rw [hc] at hc'; simp at hc'; exact n3 hc'.2
  refine ⟨fun g hg => ?_, fun e he g hg => ?_⟩
  · obtain ⟨hl, cs, hc⟩ := K.row_lt h.row g hg
    refine ⟨fun hm => hk.hc.rc.noZ hm cs _ hc, nb h.row (by decide) (by decide) (by decide) (fun g h1 h2 => ?_) g hg, Nat.le_trans hB (row_base h.row hg)⟩
    obtain ⟨_, cs1, hc1⟩ := K.row_lt h.row g h1
    obtain ⟨_, cs2, hc2⟩ := K.row_lt hb.rb g h2
    rw [hc1] at hc2
    simp at hc2
    exact absurd hc2.2 (by decide)
  · obtain ⟨hl, cs, hc⟩ := K.row_lt (h.inn e he) g hg
    exact ⟨fun hm => hk.hc.rc.noY hm cs _ hc, nb (h.inn e he) (by decide) (by decide) (by decide) (h.far e he) g hg, Nat.le_trans hB (row_base (h.inn e he) hg)⟩
end
end Go.Proofs.YtbamjfnjenmdaaaGreat.C
