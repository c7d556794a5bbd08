import Derived.Test.YtpkobgnbjmefnaaRef
namespace Go.Proofs.Ytpkobgnbjmefnaa
open Go.RowKit
set_option linter.unusedVariables false

theorem block_lt {w : World} {g : Nat} {o : Obj} (h : w.heap[g]? = some o) : g < w.heap.size := by
  rcases Nat.lt_or_ge g w.heap.size with h' | h'
  · exact h'
  · rw [Array.getElem?_eq_none h'] at h; simp at h
theorem owns_lt {w : World} {base e n : Nat} {v : Value} {xs : List Value} (h : w.ownsRow base e 1 v n xs) (g : Nat) (hg : v.ownBlock = some g) : g < w.heap.size ∧ base ≤ g := by
  rcases h.2 with ⟨hv, _⟩ | ⟨g', cap, cur, hv, hb, hh, _⟩
  · subst hv; simp [Value.ownBlock] at hg
  · subst hv; simp [Value.ownBlock] at hg; subst hg; exact ⟨block_lt hh, hb⟩
theorem owns_type {w : World} {base e n : Nat} {v : Value} {xs : List Value} (h : w.ownsRow base e 1 v n xs) (g : Nat) (hg : v.ownBlock = some g) : ∃ cur, w.heap[g]? = some (.cells cur e (0, 0)) := by
  rcases h.2 with ⟨hv, _⟩ | ⟨g', cap, cur, hv, hb, hh, _⟩
  · subst hv; simp [Value.ownBlock] at hg
  · subst hv; simp [Value.ownBlock] at hg; subst hg; exact ⟨cur, hh⟩
/-- what is owned stays owned where its block stands -/
theorem owns_same {w w' : World} {base e n : Nat} {v : Value} {xs : List Value} (h : w.ownsRow base e 1 v n xs) (hs : ∀ g, v.ownBlock = some g → w'.heap[g]? = w.heap[g]?) : w'.ownsRow base e 1 v n xs := by
  refine ⟨h.1, ?_⟩
  rcases h.2 with h2 | ⟨g, cap, cur, hv, hb, hh, r⟩
  · exact .inl h2
  · subst hv; exact .inr ⟨g, cap, cur, rfl, hb, by rw [hs g rfl]; exact hh, r⟩

def lentVal (L : Nat → List Nat) (G : Nat → Nat) (i : Nat) : Value := .slice (some ⟨G i, 0, none⟩) (L i).length ((L i).length + 70)
structure SInv (w wr : World) (L : Nat → List Nat) (k : Nat) (v u : Value) (G : Nat → Nat) : Prop where
  all : wr.ownsRow w.heap.size 5 1 v (flat L k).length ((flat L k).map bv)
  lent : wr.ownsRow w.heap.size 23 1 u k ((List.range k).map (lentVal L G))
  blk : ∀ i, i < k → wr.heap[G i]? = some (.cells ((L i ++ marksTo 70).map bv).toArray 5 (0, 0))
  ne : ∀ i, i < k → v.ownBlock ≠ some (G i)
  bel : Below w.heap.size w wr

theorem apart_types {wr : World} {base base' n m e e' : Nat} {v u : Value} {xs ys : List Value} (hv : wr.ownsRow base e 1 v n xs) (hu : wr.ownsRow base' e' 1 u m ys) (hne : e ≠ e') (g : Nat) (h1 : v.ownBlock = some g) : u.ownBlock ≠ some g := by
  intro h2
  obtain ⟨c1, e1⟩ := owns_type hv g h1
  obtain ⟨c2, e2⟩ := owns_type hu g h2
  rw [e1] at e2
  simp at e2
  exact hne e2.2

/-- behind 'all = append(all, ..)' -/
theorem SInv.stepA {w wr w1 : World} {L : Nat → List Nat} {k : Nat} {v u v' : Value} {G : Nat → Nat} (h : SInv w wr L k v u G)
    (ho : w1.ownsRow w.heap.size 5 1 v' ((flat L k).length + (L k).length) ((flat L k).map bv ++ (L k).map bv)) (hg : wr.grownBy w1 v.ownBlock) (hf : Fresh wr v v') :
    w1.ownsRow w.heap.size 5 1 v' (flat L (k + 1)).length ((flat L (k + 1)).map bv) ∧ w1.ownsRow w.heap.size 23 1 u k ((List.range k).map (lentVal L G)) ∧
    (∀ i, i < k → w1.heap[G i]? = some (.cells ((L i ++ marksTo 70).map bv).toArray 5 (0, 0))) ∧ (∀ i, i < k → v'.ownBlock ≠ some (G i)) ∧ Below w.heap.size w w1 := by
  refine ⟨?_, ?_, ?_, ?_, ?_⟩
  · simpa [flat] using ho
  · refine owns_same h.lent fun g hgu => hg.block g (owns_lt h.lent g hgu).1 ?_
    intro e
    exact apart_types h.lent h.all (by decide) g hgu e.symm
  · intro i hi
    rw [hg.block (G i) (block_lt (h.blk i hi)) (fun e => h.ne i hi e.symm)]
    exact h.blk i hi
  · intro i hi e
    rcases hf with hf | ⟨g, hg', hge⟩
    · exact h.ne i hi (hf ▸ e)
    · rw [hg'] at e; cases e
      have := block_lt (h.blk i hi); omega
  · refine h.bel.grown hg h.bel.size fun g hgv => (owns_lt h.all g hgv).2

def upd (G : Nat → Nat) (k g : Nat) : Nat → Nat := fun i => if i = k then g else G i
/-- behind 'lend(..)' and 'lent = append(lent, ..)' -/
theorem SInv.stepC {w w1 w2 w3 : World} {L : Nat → List Nat} {k g : Nat} {v u u' : Value} {G : Nat → Nat}
    (hall : w1.ownsRow w.heap.size 5 1 v (flat L (k + 1)).length ((flat L (k + 1)).map bv)) (hlent : w1.ownsRow w.heap.size 23 1 u k ((List.range k).map (lentVal L G)))
    (hblk : ∀ i, i < k → w1.heap[G i]? = some (.cells ((L i ++ marksTo 70).map bv).toArray 5 (0, 0))) (hne : ∀ i, i < k → v.ownBlock ≠ some (G i)) (hbel : Below w.heap.size w w1)
    (hl : Lent w1 w2 g (L k)) (o : Obj)
    (ho : w3.ownsRow w.heap.size 23 1 u' (k + 1) ((List.range k).map (lentVal L G) ++ [.slice (some ⟨g, 0, none⟩) (L k).length ((L k).length + 70)])) (hg : (w2.alloc o).grownBy w3 u.ownBlock) :
    SInv w w3 L (k + 1) v u' (upd G k g) := by
  have hsz2 : w1.heap.size ≤ w2.heap.size := hl.bel.size
  have hlent2 : w2.ownsRow w.heap.size 23 1 u k ((List.range k).map (lentVal L G)) := owns_same hlent fun g' hgu => hl.bel.block g' (owns_lt hlent g' hgu).1
  have hall2 : w2.ownsRow w.heap.size 5 1 v (flat L (k + 1)).length ((flat L (k + 1)).map bv) := owns_same hall fun g' hgu => hl.bel.block g' (owns_lt hall g' hgu).1
  have keep : ∀ g' o', w2.heap[g']? = some o' → some g' ≠ u.ownBlock → w3.heap[g']? = some o' := by
    intro g' o' h1 h2
    have hlt := block_lt h1
    rw [hg.block g' (by simp; omega) h2, Below.heap_alloc _ _ _ hlt]; exact h1
  refine ⟨?_, ?_, ?_, ?_, ?_⟩
  · refine owns_same hall2 fun g' hgv => ?_
    have hlt := (owns_lt hall2 g' hgv).1
    rw [hg.block g' (by simp; omega) (fun e => apart_types hall2 hlent2 (by decide) g' hgv e.symm), Below.heap_alloc _ _ _ hlt]
  · have e1 : (List.range (k + 1)).map (lentVal L (upd G k g)) = (List.range k).map (lentVal L G) ++ [.slice (some ⟨g, 0, none⟩) (L k).length ((L k).length + 70)] := by
      rw [List.range_succ, List.map_append]
      congr 1
      · apply List.map_congr_left
        intro i hi
        have : i ≠ k := by have := List.mem_range.1 hi; omega
        simp [lentVal, upd, this]
      · simp [lentVal, upd]
    rw [e1]; exact ho
  · intro i hi
    by_cases hik : i = k
    · subst hik
      simp only [upd, if_true]
      refine keep g _ hl.blk fun e => ?_
      obtain ⟨c, hc⟩ := owns_type hlent2 g e.symm
      rw [hl.blk] at hc; simp at hc
    · simp only [upd, if_neg hik]
      have h1 := hblk i (by omega)
      have h2 : w2.heap[G i]? = some (.cells ((L i ++ marksTo 70).map bv).toArray 5 (0, 0)) := by rw [hl.bel.block (G i) (block_lt h1)]; exact h1
      refine keep (G i) _ h2 fun e => ?_
      obtain ⟨c, hc⟩ := owns_type hlent2 (G i) e.symm
      rw [h2] at hc; simp at hc
  · intro i hi e
    by_cases hik : i = k
    · subst hik
      simp only [upd, if_true] at e
      have := (owns_lt hall g e).1; have := hl.new; omega
    · simp only [upd, if_neg hik] at e
      exact hne i (by omega) e
  · have hb2 : Below w.heap.size w w2 := hbel.trans (hl.bel.mono hbel.size)
    exact (hb2.alloc hb2.size o).grown hg (by have := hb2.size; simp; omega) fun g' hgu => (owns_lt hlent2 g' hgu).2
end Go.Proofs.Ytpkobgnbjmefnaa
