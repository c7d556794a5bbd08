import Derived.Test.YtijafckdbhklmabZO
namespace Go.Proofs.Ytijafckdbhklmab.B
open Go.RowKit Go.Sort Go.Lib Go.Shelf
set_option linter.unusedVariables false

theorem owns_block {w : World} {base n : Nat} {e : TypeId} {size : Nat} {v : Value} {xs : List Value} (h : w.ownsRow base e size v n xs) {g : Nat} (hg : v.ownBlock = some g) : base ≤ g ∧ g < w.heap.size := by
  rcases h.2 with ⟨hv, _⟩ | ⟨g', cap, cur, hv, hb, hc, hr⟩
  · rw [hv] at hg; cases hg
  · rw [hv] at hg
    cases hg
    exact ⟨hb, (Array.getElem?_eq_some_iff.1 hc).1⟩
/-- rows of one's own, no two of which share a block -/
structure Pile (B : Nat) (w : World) (ps : List (Value × List (Int × Int))) : Prop where
  own : ∀ p ∈ ps, w.ownsRow B TRng 2 p.1 p.2.length (pcells p.2)
  apart : ps.Pairwise (fun p q => ∀ g, p.1.ownBlock = some g → q.1.ownBlock ≠ some g)
theorem Pile.nil (B : Nat) (w : World) : Pile B w [] := ⟨fun p h => (List.not_mem_nil h).elim, List.Pairwise.nil⟩
/-- what none of the rows' blocks is touched by keeps the pile -/
theorem Pile.same {B : Nat} {w w' : World} {ps : List (Value × List (Int × Int))} (h : Pile B w ps) (hs : ∀ p ∈ ps, ∀ g, p.1.ownBlock = some g → w'.heap[g]? = w.heap[g]?) : Pile B w' ps :=
  ⟨fun p hp => owns_same (h.own p hp) (hs p hp), h.apart⟩
theorem Pile.later {B : Nat} {w w' : World} {ps : List (Value × List (Int × Int))} (h : Pile B w ps) (hb : Below w.heap.size w w') : Pile B w' ps :=
  h.same fun p hp g hg => hb.block g (owns_block (h.own p hp) hg).2
/-- one row more -/
theorem Pile.add {B : Nat} {w w' : World} {ps : List (Value × List (Int × Int))} {v : Value} {L : List (Int × Int)} (h : Pile B w ps) (hB : B ≤ w.heap.size) (hb : Below w.heap.size w w') (ho : w'.ownsRow w.heap.size TRng 2 v L.length (pcells L)) : Pile B w' (ps ++ [(v, L)]) := by
  have h' := h.later hb
  refine ⟨fun p hp => ?_, ?_⟩
  · rcases List.mem_append.1 hp with hp | hp
    · exact h'.own p hp
    · rw [List.mem_singleton.1 hp]; exact owns_mono ho hB
  · rw [List.pairwise_append]
    refine ⟨h.apart, List.pairwise_singleton _ _, fun p hp q hq g hg e => ?_⟩
    rw [List.mem_singleton.1 hq] at e
    have h1 := (owns_block (h.own p hp) hg).2
    have h2 := (owns_block ho e).1
    omega
/-- one row is written: the others stay -/
theorem Pile.put {B : Nat} {w w' : World} {ps : List (Value × List (Int × Int))} (h : Pile B w ps) {i : Nat} {v : Value} {L L' : List (Int × Int)} (hi : ps[i]? = some (v, L)) (ho : w'.ownsRow B TRng 2 v L'.length (pcells L')) (hs : ∀ g, v.ownBlock ≠ some g → g < w.heap.size → w'.heap[g]? = w.heap[g]?) : Pile B w' (ps.set i (v, L')) := by
  have hlt := (List.getElem?_eq_some_iff.1 hi).1
  have hp := List.pairwise_iff_getElem.1 h.apart
  have hv : ps[i] = (v, L) := (List.getElem?_eq_some_iff.1 hi).2
  refine ⟨fun p hp' => ?_, ?_⟩
  · obtain ⟨j, hj, e⟩ := List.getElem_of_mem hp'
    rw [List.length_set] at hj
    rw [List.getElem_set] at e
    by_cases hij : i = j
    · rw [if_pos hij] at e
      rw [← e]; exact ho
    · rw [if_neg hij] at e
      subst e
      have hm : ps[j] ∈ ps := List.getElem_mem hj
      refine owns_same (h.own _ hm) (fun g hg => hs g (fun e => ?_) (owns_block (h.own _ hm) hg).2)
      rcases Nat.lt_or_gt_of_ne hij with hl | hl
      · exact hp i j hlt hj hl g (by rw [hv]; exact e) hg
      · exact hp j i hj hlt hl g hg (by rw [hv]; exact e)
  · rw [List.pairwise_iff_getElem]
    intro a b ha hb hab g hg e
    rw [List.length_set] at ha hb
    have fst : ∀ (k : Nat) (hk : k < (ps.set i (v, L')).length) (hk' : k < ps.length), ((ps.set i (v, L'))[k]).1 = (ps[k]).1 := fun k hk hk' => by
      rw [List.getElem_set]
      by_cases hik : i = k
      · subst hik; rw [if_pos rfl, hv]
      · rw [if_neg hik]
    rw [fst a _ ha] at hg
    rw [fst b _ hb] at e
    exact hp a b ha hb hab g hg e
end Go.Proofs.Ytijafckdbhklmab.B
