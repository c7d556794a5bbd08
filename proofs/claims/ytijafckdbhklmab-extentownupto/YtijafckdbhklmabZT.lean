import Derived.Test.YtijafckdbhklmabZQ
import Derived.Test.YtijafckdbhklmabYZa
namespace Go.Proofs.Ytijafckdbhklmab.B
open Go.RowKit Go.Sort Go.Lib Go.Shelf
attribute [local go_sem] Oper.semAt_some
set_option linter.unusedVariables false
set_option linter.unusedSimpArgs false
set_option maxRecDepth 100000

abbrev TSl : TypeId := 48
theorem infoSl : (Try.prog.info? TSl).map (fun i => (i.zero, i.size, i.bytes)) = some (some (.slice none 0 0), 1, 24) := by kernel_rfl
/-- rows of two types lie in two blocks -/
theorem owns_types {w : World} {b b' n n' s s' : Nat} {e e' : TypeId} {v v' : Value} {xs xs' : List Value} (h : w.ownsRow b e s v n xs) (h' : w.ownsRow b' e' s' v' n' xs') (he : e ≠ e') {g : Nat} (hg : v.ownBlock = some g) : v'.ownBlock ≠ some g := by
  intro hg'
  rcases h.2 with ⟨hv, _⟩ | ⟨g1, c1, cur1, hv, _, k1, _⟩
  · rw [hv] at hg; cases hg
  rcases h'.2 with ⟨hv', _⟩ | ⟨g2, c2, cur2, hv', _, k2, _⟩
  · rw [hv'] at hg'; cases hg'
  rw [hv] at hg
  rw [hv'] at hg'
  cases hg
  cases hg'
  rw [k1] at k2
  injection k2 with k2
  injection k2 with _ k3 _
  exact he k3
theorem owns_later {w w' : World} {b n s : Nat} {e : TypeId} {v : Value} {xs : List Value} (h : w.ownsRow b e s v n xs) (hb : Below w.heap.size w w') : w'.ownsRow b e s v n xs :=
  owns_same h fun g hg => hb.block g (owns_block h hg).2
/-- the four sets -/
def S4 (la lb : List (Int × Int)) : Nat → Int → Prop
  | 0, i => inL la i
  | 1, i => inL la i ∨ inL lb i
  | 2, i => inL la i ∧ ¬ inL lb i
  | _, i => inL la i ∧ inL lb i
/-- the answers that were kept -/
structure OwnI (w2 : World) (la lb : List (Int × Int)) (k : Nat) (ps : List (Value × List (Int × Int))) (v : Value) (wr : World) : Prop where
  len : ps.length = 4 * k
  norm : ∀ j p, ps[j]? = some p → Norm p.2 (S4 la lb (j % 4))
  pile : Pile w2.heap.size wr ps
  row : wr.ownsRow w2.heap.size TSl 1 v ps.length (ps.map (·.1))
  bel : Below w2.heap.size w2 wr
theorem OwnI.step {w2 wr W1 W2 W3 W4 w' : World} {la lb : List (Int × Int)} {k : Nat} {ps : List (Value × List (Int × Int))} {v v' n1 n2 n3 n4 : Value} {L1 L2 L3 L4 : List (Int × Int)} {cs : Array Value} {ty : TypeId} (hI : OwnI w2 la lb k ps v wr)
    (N1 : Norm L1 (inL la)) (o1 : W1.ownsRow wr.heap.size TRng 2 n1 L1.length (pcells L1)) (b1 : Below wr.heap.size wr W1)
    (N2 : Norm L2 fun i => inL la i ∨ inL lb i) (o2 : W2.ownsRow W1.heap.size TRng 2 n2 L2.length (pcells L2)) (b2 : Below W1.heap.size W1 W2)
    (N3 : Norm L3 fun i => inL la i ∧ ¬ inL lb i) (o3 : W3.ownsRow W2.heap.size TRng 2 n3 L3.length (pcells L3)) (b3 : Below W2.heap.size W2 W3)
    (N4 : Norm L4 fun i => inL la i ∧ inL lb i) (o4 : W4.ownsRow W3.heap.size TRng 2 n4 L4.length (pcells L4)) (b4 : Below W3.heap.size W3 W4)
    (ho : w'.ownsRow w2.heap.size TSl 1 v' (ps.length + 4) (ps.map (·.1) ++ [n1, n2, n3, n4])) (hg : (W4.alloc (.cells cs ty)).grownBy w' v.ownBlock) :
    OwnI w2 la lb (k + 1) (ps ++ [(n1, L1)] ++ [(n2, L2)] ++ [(n3, L3)] ++ [(n4, L4)]) v' w' := by
  have s0 := hI.bel.size
  have s1 := b1.size
  have s2 := b2.size
  have s3 := b3.size
  have s4 := b4.size
  have P1 := hI.pile.add (v := n1) (L := L1) s0 b1 o1
  have P2 := P1.add (v := n2) (L := L2) (by omega) b2 o2
  have P3 := P2.add (v := n3) (L := L3) (by omega) b3 o3
  have P4 := P3.add (v := n4) (L := L4) (by omega) b4 o4
  have ba : Below W4.heap.size W4 (W4.alloc (.cells cs ty)) := (Below.refl _ _).alloc (Nat.le_refl _) _
  have P5 := P4.later ba
  have bw : Below wr.heap.size wr (W4.alloc (.cells cs ty)) := (((b1.trans (b2.mono s1)).trans (b3.mono (by omega))).trans (b4.mono (by omega))).trans (ba.mono (by omega))
  have R5 := owns_later hI.row bw
  have P6 : Pile w2.heap.size w' (ps ++ [(n1, L1)] ++ [(n2, L2)] ++ [(n3, L3)] ++ [(n4, L4)]) := P5.same fun p hp g hgp => hg.block g (owns_block (P5.own p hp) hgp).2 (fun e => owns_types (P5.own p hp) R5 (by decide) hgp e.symm)
  refine ⟨?_, ?_, P6, ?_, ?_⟩
  · have := hI.len; simp; omega
  · intro j p hj
    have hl := hI.len
    have e4 : ps ++ [(n1, L1)] ++ [(n2, L2)] ++ [(n3, L3)] ++ [(n4, L4)] = ps ++ [(n1, L1), (n2, L2), (n3, L3), (n4, L4)] := by simp
    rw [e4] at hj
    by_cases hlt : j < ps.length
    · rw [List.getElem?_append_left hlt] at hj; exact hI.norm j p hj
    · rw [List.getElem?_append_right (by omega)] at hj
      have hj4 : j - ps.length < 4 := by have := (List.getElem?_eq_some_iff.1 hj).1; simpa using this
      have hc : j - ps.length = 0 ∨ j - ps.length = 1 ∨ j - ps.length = 2 ∨ j - ps.length = 3 := by omega
      rcases hc with e | e | e | e
      · rw [e] at hj; cases hj; rw [show j % 4 = 0 by omega]; exact N1
      · rw [e] at hj; cases hj; rw [show j % 4 = 1 by omega]; exact N2
      · rw [e] at hj; cases hj; rw [show j % 4 = 2 by omega]; exact N3
      · rw [e] at hj; cases hj; rw [show j % 4 = 3 by omega]; exact N4
  · have e1 : (ps ++ [(n1, L1)] ++ [(n2, L2)] ++ [(n3, L3)] ++ [(n4, L4)]).length = ps.length + 4 := by simp
    have e2 : (ps ++ [(n1, L1)] ++ [(n2, L2)] ++ [(n3, L3)] ++ [(n4, L4)]).map (·.1) = ps.map (·.1) ++ [n1, n2, n3, n4] := by simp
    rw [e1, e2]; exact ho
  · exact (hI.bel.trans (bw.mono s0)).grown hg (Nat.le_trans s0 bw.size) (fun g e => (owns_block hI.row e).1)

end Go.Proofs.Ytijafckdbhklmab.B
