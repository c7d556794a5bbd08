import Derived.Test.YtjkoambfecmglaaVSjz
namespace Go.Proofs.Ytjkoambfecmglaa
open Go.RowKit Go.Maps
set_option linter.unusedVariables false
set_option linter.unusedSimpArgs false
set_option maxRecDepth 100000
/-- a search that is being made: its levels are not all there -/
structure Sb (W : World) (B Q : Nat) (oa : Option Addr) (m oc A gh : Nat) (ah : List Nat) (lv : Value) (n : Nat) (L : List Lv) (r : Nat) : Prop where
  blk : W.heap[Q]? = some (.cells #[.slice oa m oc, sv A, .slice (some ⟨gh, 0, none⟩) m m, lv, .map (some r)] 94 (0, 0))
  hQ : B ≤ Q
  ahd : W.ownsRow B 91 1 (.slice (some ⟨gh, 0, none⟩) m m) m (ah.map sv)
  lvs : W.ownsRow B 97 3 lv L.length (lcells n L)
  now : ∀ (j : Nat) (v : Lv), L[j]? = some v → W.ownsRow B 5 1 (v.sl n) n (v.bs.map bv) ∧ v.bs.length = n ∧ ∀ x ∈ v.bs, x < 256
  apL : ∀ (i j : Nat) (u v : Lv) (g : Nat), i ≠ j → L[i]? = some u → L[j]? = some v → (u.sl n).ownBlock = some g → (v.sl n).ownBlock ≠ some g
  hr : B ≤ r
  mp : W.ownsMap Try.prog TKey unitE r 0 (.map [])
section
variable {W : World} {B Q m oc A gh n r : Nat} {oa : Option Addr} {ah : List Nat} {L : List Lv} {lv : Value}
theorem Sb.whole {gv vc : Nat} (h : Sb W B Q oa m oc A gh ah (.slice (some ⟨gv, 0, none⟩) (m + 1) vc) n L r) (hl : L.length = m + 1) : Sm W B Q oa m oc A gh m ah gv vc n L r 0 (.map []) := by
  have h1 := h.lvs
  rw [hl] at h1
  exact ⟨h.blk, h.hQ, h.ahd, h1, hl, h.now, h.apL, h.hr, h.mp⟩
theorem Sb.q1 (h : Sb W B Q oa m oc A gh ah lv n L r) : W.cell? ⟨Q, 1, none⟩ = some (sv A) := blk_at h.blk 1
theorem Sb.q2 (h : Sb W B Q oa m oc A gh ah lv n L r) : W.cell? ⟨Q, 2, none⟩ = some (.slice (some ⟨gh, 0, none⟩) m m) := blk_at h.blk 2
theorem Sb.q3 (h : Sb W B Q oa m oc A gh ah lv n L r) : W.cell? ⟨Q, 3, none⟩ = some lv := blk_at h.blk 3
theorem Sb.fz (h : Sb W B Q oa m oc A gh ah lv n L r) (i : Nat) : W.frozen? ⟨Q, i, none⟩ = false := blk_free h.blk i
theorem Sb.ahc (h : Sb W B Q oa m oc A gh ah lv n L r) {k E : Nat} (hk : ah[k]? = some E) : W.cell? ⟨gh, k, none⟩ = some (sv E) ∧ W.frozen? ⟨gh, k, none⟩ = false := by
  have hl := h.ahd.1
  rw [List.length_map] at hl
  have hkm : k < m := by have := (List.getElem?_eq_some_iff.1 hk).1; omega
  obtain ⟨g, e, _, hc, hf⟩ := own_some h.ahd (by omega)
  cases e
  exact ⟨by rw [hc k hkm, List.getElem?_map, hk]; rfl, hf k⟩
theorem Sb.ghb (h : Sb W B Q oa m oc A gh ah lv n L r) : B ≤ gh ∧ ∃ cur, W.heap[gh]? = some (.cells cur 91 (0, 0)) := by
  rcases h.ahd.2 with ⟨h0, _⟩ | ⟨g, cap, cur, hv, hg, hc, hr⟩
  · cases h0
  · cases hv; exact ⟨hg, cur, hc⟩
theorem Sb.nob (h : Sb W B Q oa m oc A gh ah lv n L r) {j g : Nat} {v : Lv} (hj : L[j]? = some v) (hg : (v.sl n).ownBlock = some g) : B ≤ g ∧ ∃ cur, W.heap[g]? = some (.cells cur 5 (0, 0)) := by
  rcases (h.now j v hj).1.2 with ⟨h0, _⟩ | ⟨g', cap, cur, hv, hb, hc, hr⟩
  · rw [h0] at hg; cases hg
  · rw [hv] at hg; cases hg; exact ⟨hb, cur, hc⟩
theorem Sb.lvb (h : Sb W B Q oa m oc A gh ah lv n L r) {g : Nat} (hg : lv.ownBlock = some g) : B ≤ g ∧ ∃ cur, W.heap[g]? = some (.cells cur 97 (0, 0)) := by
  rcases h.lvs.2 with ⟨h0, _⟩ | ⟨g', cap, cur, hv, hb, hc, hr⟩
  · rw [h0] at hg; cases hg
  · rw [hv] at hg; cases hg; exact ⟨hb, cur, hc⟩
theorem Sb.mpb (h : Sb W B Q oa m oc A gh ah lv n L r) : ∃ es clock, W.heap[r]? = some (.map es clock) := by
  obtain ⟨es, clock, h1, _⟩ := h.mp
  exact ⟨es, clock, h1⟩
theorem rows_same {W V : World} {B n : Nat} {v : Value} {e size : Nat} {xs : List Value} (h : W.ownsRow B e size v n xs) (hs : ∀ g, v.ownBlock = some g → V.heap[g]? = W.heap[g]?) : V.ownsRow B e size v n xs := by
  refine ⟨h.1, ?_⟩
  rcases h.2 with hv | ⟨g, cap, cur, hv, hg, hc, hr⟩
  · exact .inl hv
  · exact .inr ⟨g, cap, cur, hv, hg, (hs g (by rw [hv]; rfl)).trans hc, hr⟩
theorem Sb.later {V : World} (h : Sb W B Q oa m oc A gh ah lv n L r) (hb : Below W.heap.size W V) : Sb V B Q oa m oc A gh ah lv n L r where
  blk := (hb.block _ (block_lt h.blk)).trans h.blk
  hQ := h.hQ
  ahd := owns_same h.ahd fun g e => hb.block _ (owns_in h.ahd e).2
  lvs := rows_same h.lvs fun g e => hb.block _ (owns_in h.lvs e).2
  now j v hj := ⟨owns_same (h.now j v hj).1 fun g e => hb.block _ (owns_in (h.now j v hj).1 e).2, (h.now j v hj).2⟩
  apL := h.apL
  hr := h.hr
  mp := by
    obtain ⟨es, clock, h1, h2, h3, h4⟩ := h.mp
    exact ⟨es, clock, (hb.block _ (block_lt h1)).trans h1, h2, h3, h4⟩
/-- the search's own cells change -/
theorem Sb.own (h : Sb W B Q oa m oc A gh ah lv n L r) {V : World} {A' : Nat} {lv' : Value} {L' : List Lv} (hblk : V.heap[Q]? = some (.cells #[.slice oa m oc, sv A', .slice (some ⟨gh, 0, none⟩) m m, lv', .map (some r)] 94 (0, 0))) (hs : ∀ (g : Nat) (cs : Array Value) (t : Nat), t ≠ 94 → t ≠ 97 → W.heap[g]? = some (.cells cs t (0, 0)) → V.heap[g]? = W.heap[g]?) (hmp : ∀ (g : Nat) (es : Array MapEntry) (c : Nat), W.heap[g]? = some (.map es c) → V.heap[g]? = W.heap[g]?) (hl : V.ownsRow B 97 3 lv' L'.length (lcells n L')) (hnow : ∀ (j : Nat) (v : Lv), L'[j]? = some v → L[j]? = some v ∨ (L.length ≤ j ∧ V.ownsRow B 5 1 (v.sl n) n (v.bs.map bv) ∧ v.bs.length = n ∧ (∀ x ∈ v.bs, x < 256) ∧ ∀ g, (v.sl n).ownBlock = some g → ∀ (i : Nat) (u : Lv), L'[i]? = some u → i ≠ j → (u.sl n).ownBlock ≠ some g)) : Sb V B Q oa m oc A' gh ah lv' n L' r where
  blk := hblk
  hQ := h.hQ
  ahd := owns_same h.ahd fun g e => by
    cases e
    obtain ⟨_, cu, hc⟩ := h.ghb
    exact hs gh cu 91 (by decide) (by decide) hc
  lvs := hl
  now j v hj := by
    rcases hnow j v hj with h1 | ⟨_, h2, h3, h4, _⟩
    · refine ⟨owns_same (h.now j v h1).1 fun g e => ?_, (h.now j v h1).2⟩
      obtain ⟨_, cu, hc⟩ := h.nob h1 e
      exact hs g cu 5 (by decide) (by decide) hc
    · exact ⟨h2, h3, h4⟩
  apL i j u v g hij hu hv hg := by
    rcases hnow i u hu with h1 | ⟨_, _, _, _, h6⟩
    · rcases hnow j v hv with h2 | ⟨_, _, _, _, h6⟩
      · exact h.apL i j u v g hij h1 h2 hg
      · intro e; exact h6 g e i u hu hij hg
    · exact h6 g hg j v hv (fun e => hij e.symm)
  hr := h.hr
  mp := by
    obtain ⟨es, clock, h1, h2, h3, h4⟩ := h.mp
    exact ⟨es, clock, (hmp r es clock h1).trans h1, h2, h3, h4⟩
theorem Sb.setA (h : Sb W B Q oa m oc A gh ah lv n L r) (A' : Nat) : Sb (W.setCell ⟨Q, 1, none⟩ (sv A')) B Q oa m oc A' gh ah lv n L r := by
  have far : ∀ g, g ≠ Q → (W.setCell ⟨Q, 1, none⟩ (sv A')).heap[g]? = W.heap[g]? := fun g e => Below.heap_setCell _ _ _ _ e
  refine h.own ?_ (fun g cs t h1 h2 hg => far g (fun e => ?_)) (fun g es c hg => far g (fun e => ?_)) (rows_same h.lvs fun g e => far g (fun e2 => ?_)) (fun j v hj => .inl hj)
  · exact heap_setCell_same W Q 1 _ 94 (sv A') h.blk
  · rw [e, h.blk] at hg; cases hg; exact h1 rfl
  · rw [e, h.blk] at hg; cases hg
  · obtain ⟨_, cu, hc⟩ := h.lvb e
    rw [e2, h.blk] at hc; cases hc
theorem Sb.setAh (h : Sb W B Q oa m oc A gh ah lv n L r) {k : Nat} (hk : k < m) (E : Nat) : Sb (W.setCell ⟨gh, k, none⟩ (sv E)) B Q oa m oc A gh (ah.set k E) lv n L r := by
  obtain ⟨_, ch, hgh⟩ := h.ghb
  have far : ∀ g, g ≠ gh → (W.setCell ⟨gh, k, none⟩ (sv E)).heap[g]? = W.heap[g]? := fun g e => Below.heap_setCell _ _ _ _ e
  refine ⟨?_, h.hQ, ?_, rows_same h.lvs fun g e => far g (fun e2 => ?_), fun j v hj => ⟨owns_same (h.now j v hj).1 fun g e => far g (fun e2 => ?_), (h.now j v hj).2⟩, h.apL, h.hr, ?_⟩
  · rw [far Q (fun e => by have := h.blk; rw [e, hgh] at this; cases this)]; exact h.blk
  · have := own_set h.ahd (sv E) hk
    rwa [← List.map_set] at this
  · obtain ⟨_, cu, hc⟩ := h.lvb e
    rw [e2, hgh] at hc; cases hc
  · obtain ⟨_, cu, hc⟩ := h.nob hj e
    rw [e2, hgh] at hc; cases hc
  · obtain ⟨es, clock, g1, g2⟩ := h.mp
    exact ⟨es, clock, (far r (fun e => by rw [e, hgh] at g1; cases g1)).trans g1, g2⟩
/-- one more level -/
theorem Sb.add (h : Sb W B Q oa m oc A gh ah lv n L r) {W1 X W3 : World} {co : Option Addr} {cc : Nat} {bs : List Nat} {lv' : Value} (hb1 : Below W.heap.size W W1) (hco : W1.ownsRow W.heap.size 5 1 (.slice co n cc) n (bs.map bv)) (hbs : bs.length = n) (hlt : ∀ x ∈ bs, x < 256) (hX : Below W1.heap.size W1 X) (hg : X.grownBy W3 lv.ownBlock) (ho : W3.ownsRow B 97 3 lv' (L.length + 1) (lcells n L ++ Lv.cells n ⟨0, 0, co, cc, bs⟩)) :
    Sb (W3.setCell ⟨Q, 3, none⟩ lv') B Q oa m oc A gh ah lv' n (L ++ [⟨0, 0, co, cc, bs⟩]) r ∧ Below B W (W3.setCell ⟨Q, 3, none⟩ lv') := by
  have hlt1 := block_lt h.blk
  have hBW : B ≤ W.heap.size := Nat.le_trans h.hQ (Nat.le_of_lt hlt1)
  have old : ∀ g, g < W.heap.size → some g ≠ lv.ownBlock → W3.heap[g]? = W.heap[g]? := fun g h1 h2 => (hg.block g (Nat.lt_of_lt_of_le (Nat.lt_of_lt_of_le h1 hb1.size) hX.size) h2).trans ((hX.block g (Nat.lt_of_lt_of_le h1 hb1.size)).trans (hb1.block g h1))
  have hQ3 : W3.heap[Q]? = _ := (old Q hlt1 (fun e => by
    obtain ⟨_, cu, hc⟩ := h.lvb e.symm
    rw [h.blk] at hc; cases hc)).trans h.blk
  have hl3 : ∀ g, lv'.ownBlock = some g → g ≠ Q := fun g e e2 => by
    rcases ho.2 with ⟨h0, _⟩ | ⟨g', cap, cur, hv, hb, hc, hr⟩
    · rw [h0] at e; cases e
    · have e3 : some g' = some g := by rw [← e, hv]; rfl
      cases e3; rw [e2, hQ3] at hc; cases hc
  have far : ∀ g, g ≠ Q → (W3.setCell ⟨Q, 3, none⟩ lv').heap[g]? = W3.heap[g]? := fun g e => Below.heap_setCell _ _ _ _ e
  have hlen : (L ++ [(⟨0, 0, co, cc, bs⟩ : Lv)]).length = L.length + 1 := by simp
  have hcn : ∀ g, (Value.slice co n cc).ownBlock = some g → W.heap.size ≤ g ∧ g < W1.heap.size := fun g e => owns_in hco e
  refine ⟨h.own ?_ ?_ ?_ ?_ ?_, ?_⟩
  · exact heap_setCell_same W3 Q 3 _ 94 lv' hQ3
  · intro g cs t h1 h2 hg1
    rw [far g (fun e => by rw [e, h.blk] at hg1; cases hg1; exact h1 rfl)]
    exact old g (block_lt hg1) (fun e => by
      obtain ⟨_, cu, hc⟩ := h.lvb e.symm
      rw [hg1] at hc; cases hc; exact h2 rfl)
  · intro g es c hg1
    rw [far g (fun e => by rw [e, h.blk] at hg1; cases hg1)]
    exact old g (block_lt hg1) (fun e => by
      obtain ⟨_, cu, hc⟩ := h.lvb e.symm
      rw [hg1] at hc; cases hc)
  · rw [hlen]
    have e1 : lcells n (L ++ [(⟨0, 0, co, cc, bs⟩ : Lv)]) = lcells n L ++ Lv.cells n ⟨0, 0, co, cc, bs⟩ := by simp [lcells]
    rw [e1]
    exact rows_same ho fun g e => far g (hl3 g e)
  · intro j v hj
    rcases Nat.lt_or_ge j L.length with h1 | h1
    · rw [List.getElem?_append_left h1] at hj; exact .inl hj
    · right
      rw [List.getElem?_append_right h1] at hj
      have hj0 : j = L.length := by
        have := (List.getElem?_eq_some_iff.1 hj).1
        simp at this; omega
      subst hj0
      simp at hj
      subst hj
      refine ⟨Nat.le_refl _, ?_, hbs, hlt, ?_⟩
      · have h3 : X.ownsRow W.heap.size 5 1 (.slice co n cc) n (bs.map bv) := owns_same hco fun g e => hX.block g (hcn g e).2
        have h4 : W3.ownsRow W.heap.size 5 1 (.slice co n cc) n (bs.map bv) := owns_far h3 hg (fun g e e2 => by
          have := (owns_in h.lvs e2.symm).2
          have := (hcn g e).1
          omega)
        have h5 : (W3.setCell ⟨Q, 3, none⟩ lv').ownsRow W.heap.size 5 1 (.slice co n cc) n (bs.map bv) := owns_same h4 fun g e => far g (fun e2 => by have := (hcn g e).1; omega)
        exact owns_mono h5 hBW
      · intro g e i u hu hij e2
        have h6 : i < L.length := by
          have := (List.getElem?_eq_some_iff.1 hu).1
          rw [hlen] at this; omega
        rw [List.getElem?_append_left h6] at hu
        have h7 := (owns_in (h.now i u hu).1 e2).2
        have h8 := (hcn g e).1
        omega
  · have h1 : Below B W X := (hb1.mono hBW).trans (hX.mono (Nat.le_trans hBW hb1.size))
    have h2 : Below B W W3 := h1.grown hg (Nat.le_trans hBW (Nat.le_trans hb1.size hX.size)) (fun k e => (owns_in h.lvs e).1)
    exact h2.setCell (p := ⟨Q, 3, none⟩) h.hQ _
end
/-- those of the first j that are before an operation -/
def befOf (l : List Opv) (p : Opv) (j : Nat) : List Nat := (List.range j).filter fun i => match l[i]? with
  | some o => o.bef p
  | none => false
theorem befOf_succ {l : List Opv} {p o : Opv} {i : Nat} (ho : l[i]? = some o) : befOf l p (i + 1) = if o.bef p then befOf l p i ++ [i] else befOf l p i := by
  unfold befOf
  rw [List.range_succ, List.filter_append]
  simp only [List.filter_cons, List.filter_nil, ho]
  split <;> simp
theorem befOf_mem {l : List Opv} {p : Opv} {i k : Nat} : k ∈ befOf l p i ↔ k < i ∧ ∃ o, l[k]? = some o ∧ o.bef p = true := by
  unfold befOf
  rw [List.mem_filter, List.mem_range]
  constructor
  · rintro ⟨h1, h2⟩
    refine ⟨h1, ?_⟩
    cases h : l[k]? with
    | none => rw [h] at h2; cases h2
    | some o => rw [h] at h2; exact ⟨o, rfl, h2⟩
  · rintro ⟨h1, o, h2, h3⟩
    exact ⟨h1, by rw [h2]; exact h3⟩
/-- the sets of those that are before each, of the first i -/
def ahOf (l : List Opv) (i : Nat) : List Nat := (List.range l.length).map fun k => if k < i then (match l[k]? with
  | some p => mask (befOf l p l.length)
  | none => 0) else 0
theorem ahOf_len (l : List Opv) (i : Nat) : (ahOf l i).length = l.length := by simp [ahOf]
theorem ahOf_zero (l : List Opv) : ahOf l 0 = List.replicate l.length 0 := by
  apply List.ext_getElem?
  intro k
  unfold ahOf
  rw [List.getElem?_map, List.getElem?_replicate]
  by_cases h : k < l.length
  · simp [h]
  · simp [h]
theorem ahOf_at {l : List Opv} {i k : Nat} (h : i ≤ k) (hk : k < l.length) : (ahOf l i)[k]? = some 0 := by
  unfold ahOf
  rw [List.getElem?_map, List.getElem?_range hk]
  simp; omega
theorem ahOf_succ {l : List Opv} {i : Nat} {p : Opv} (hp : l[i]? = some p) : (ahOf l i).set i (mask (befOf l p l.length)) = ahOf l (i + 1) := by
  have hi := (List.getElem?_eq_some_iff.1 hp).1
  apply List.ext_getElem?
  intro k
  by_cases e : i = k
  · subst e
    rw [List.getElem?_set_self (by rw [ahOf_len]; exact hi)]
    unfold ahOf
    rw [List.getElem?_map, List.getElem?_range hi]
    simp [hp]
  · rw [List.getElem?_set_ne e]
    unfold ahOf
    rw [List.getElem?_map, List.getElem?_map]
    rcases Nat.lt_or_ge k l.length with h | h
    · rw [List.getElem?_range h]
      simp only [Option.map_some]
      by_cases h2 : k < i
      · rw [if_pos h2, if_pos (by omega)]
      · rw [if_neg h2, if_neg (by omega)]
    · rw [List.getElem?_eq_none (by simpa using h)]; rfl
end Go.Proofs.Ytjkoambfecmglaa
