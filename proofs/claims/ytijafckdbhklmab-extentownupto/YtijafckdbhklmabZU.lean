import Derived.Test.YtijafckdbhklmabZT
namespace Go.Proofs.Ytijafckdbhklmab.B
open Go.RowKit Go.Sort Go.Lib Go.Shelf
set_option linter.unusedVariables false
set_option linter.unusedSimpArgs false
set_option maxRecDepth 100000

/-- an append leaves what the old value shows -/
theorem append_stays {P : Program} (w : World) (base : Nat) (t ty e : TypeId) (i : TypeInfo) (z : Value) (size bytes : Nat) (ht : P.underlying t = some (.slice e)) (hi : P.info? e = some i) (hz : i.zero = some z)
    (hsize : i.size = size) (hby : i.bytes = bytes) (v : Value) (n : Nat) (xs : List Value) (hown : w.ownsRow base e size v n xs)
    (a : Addr) (m c : Nat) (news : List Value) (hl : news.length = m * size) (hnews : ∀ j u, news[j]? = some u → w.cell? (a.add j) = some u) (h1 : ∀ u ∈ news, u.oneCell' = true)
    (h63 : n + m ≤ maxLen) (hbytes : (n + m) * bytes ≤ 140737488355328) {v' : Value} {w' : World} (hr : (Builtin.append_ #[t, t] ty #[v, .slice (some a) m c]).run P w = .ok v' w') : w'.ownsRow base e size v n xs := by
  subst hsize
  subst hby
  have hsmall : n + m ≤ 9223372036854775807 := by simp only [maxLen] at h63; omega
  rcases hown.2 with ⟨rfl, rfl⟩ | ⟨g, cap, cur, rfl, hbg, hg, hnc, hcm, hcs, htake⟩
  · have hx : xs = [] := List.eq_nil_of_length_eq_zero (by simpa using hown.1)
    subst hx
    exact World.ownsRow_nil _ _ _ _
  · by_cases hroom : n + m ≤ cap
    · have hfit : n * i.size + news.length ≤ cur.size := by rw [hl, hcs, ← Nat.add_mul]; exact Nat.mul_le_mul_right _ hroom
      have hr2 := run_append_room (P := P) w t ty e i ht hi g n cap cur hg a m c news hl hnews h1 hroom hfit
      rw [hr2] at hr
      injection hr with _ hw
      rw [← hw]
      refine ⟨hown.1, .inr ⟨g, cap, _, rfl, hbg, setRow_heap w g cur _ e _ hg, hnc, hcm, ?_, ?_⟩⟩
      · simp only [List.size_toArray, List.length_append, List.length_take, List.length_drop, Array.length_toList]
        omega
      · have hxl := hown.1
        rw [htake]
        simp only [List.append_assoc]
        rw [← hxl]
        exact List.take_left
    · have holds : ∀ j u, xs[j]? = some u → w.cell? ((⟨g, 0, none⟩ : Addr).add j) = some u := hown.cells (g := g) rfl
      have hr2 := run_append_grow (P := P) w t ty e i z ht hi hz ⟨g, 0, none⟩ n cap xs hown.1 holds a m c news hl hnews (by omega) (by omega) (growslice_fits (by omega) hbytes)
      rw [hr2] at hr
      injection hr with _ hw
      rw [← hw]
      exact ⟨hown.1, .inr ⟨g, cap, cur, rfl, hbg, (heap_alloc_old w.drew _ (Array.getElem?_eq_some_iff.1 hg).1).trans hg, hnc, hcm, hcs, htake⟩⟩
theorem wpList_append_stay {P : Program} {w : World} {ops : Array Oper} {rest : List Oper} {o : Oper} {a : Act} {Q : Exit → Act → World → Prop} (hgd : o.guard = none) (s x : Operand) (t : TypeId)
    (ho : o.op = .call { callee := .builtin .append, args := #[s, x], argTypes := #[t, t] })
    (base : Nat) (e : TypeId) (i : TypeInfo) (z : Value) (size bytes : Nat) (ht : P.underlying t = some (.slice e)) (hi : P.info? e = some i) (hz : i.zero = some z)
    (hsize : i.size = size) (hby : i.bytes = bytes) (hzs : z.cells.size = size) (hsz : 0 < size)
    (v : Value) (n : Nat) (xs : List Value) (hs : a.eval s = v) (hown : w.ownsRow base e size v n xs)
    (ad : Addr) (m c : Nat) (news : List Value) (hx : a.eval x = .slice (some ad) m c) (hl : news.length = m * size) (hnews : ∀ j u, news[j]? = some u → w.cell? (ad.add j) = some u) (h1 : ∀ u ∈ news, u.oneCell' = true)
    (h63 : n + m ≤ maxLen) (hbytes : (n + m) * bytes ≤ 140737488355328) (hbase : base ≤ w.heap.size)
    (h : ∀ v' w', w'.ownsRow base e size v' (n + m) (xs ++ news) → w.grownBy w' v.ownBlock → (v'.ownBlock = v.ownBlock ∨ v'.ownBlock = some w.heap.size) → w'.ownsRow base e size v n xs → wpList P ops Q rest (a.put o.dst v') w') :
    wpList P ops Q (o :: rest) a w := by
  refine wpList_plain hgd fun K hK => ?_
  obtain ⟨v', w', hr, h2, h3, _, h5⟩ := run_append_own_at (P := P) w base t o.type e i z size bytes ht hi hz hsize hby hzs hsz v n xs hown ad m c news hl hnews h1 h63 hbytes hbase
  have h6 := append_stays (P := P) w base t o.type e i z size bytes ht hi hz hsize hby v n xs hown ad m c news hl hnews h1 h63 hbytes hr
  unfold Oper.wp execOp
  simp only [ho, resolve, invoke, builtin, Sem.run_bind, Sem.run_pure, Result.andThen_ok, List.map_toArray, List.map_cons, List.map_nil, hs, hx, hr]
  exact hK _ _ (h v' w' h2 h3 h5 h6)
/-- what a longer value in the same block shows of the shorter -/
theorem row_prefix {w w' : World} {B n m s : Nat} {T : TypeId} {v u : Value} {xs ys : List Value} (hs : 0 < s) (hv : w.ownsRow B T s v n xs) (hu : w.ownsRow B T s u m (xs ++ ys)) (he : u.ownBlock = v.ownBlock) (hu' : w'.ownsRow B T s u m (xs ++ ys)) : w'.ownsRow B T s v n xs := by
  rcases hv.2 with ⟨rfl, rfl⟩ | ⟨g, cap, cur, rfl, hbg, hg, hnc, hcm, hcs, htake⟩
  · have hx : xs = [] := List.eq_nil_of_length_eq_zero (by simpa using hv.1)
    subst hx
    exact World.ownsRow_nil _ _ _ _
  · rcases hu.2 with ⟨rfl, _⟩ | ⟨g1, cap1, cur1, rfl, _, hg1, _, _, hcs1, _⟩
    · simp [Value.ownBlock] at he
    · simp [Value.ownBlock] at he
      subst he
      rw [hg] at hg1
      injection hg1 with hg1
      injection hg1 with hc _ _
      subst hc
      have ec : cap = cap1 := Nat.eq_of_mul_eq_mul_right hs (hcs.symm.trans hcs1)
      rcases hu'.2 with ⟨h, _⟩ | ⟨g2, cap2, cur2, h, _, hg2, _, _, hcs2, htake2⟩
      · simp at h
      · simp only [Value.slice.injEq, Option.some.injEq, Addr.mk.injEq, and_true, true_and] at h
        obtain ⟨rfl, rfl⟩ := h
        subst ec
        refine ⟨hv.1, .inr ⟨g1, cap, cur2, rfl, hbg, hg2, hnc, hcm, hcs2, ?_⟩⟩
        have e1 := congrArg (List.take (n * s)) htake2
        rw [List.take_take] at e1
        have hl := hu'.1
        have hx := hv.1
        rw [List.length_append] at hl
        rw [Nat.min_eq_left (by omega)] at e1
        rw [e1, ← hx]
        exact List.take_left
/-- the pile, the list of its rows and a copy, while the rows are written over and grown -/
structure OwnW (w2 : World) (gl lc : Nat) (vs : List Value) (gw : Nat) (Lw : List (Int × Int)) (qs : List (Value × List (Int × Int))) (W : World) : Prop where
  len : vs.length = 8
  vq : qs.map (·.1) = vs
  small : ∀ p ∈ qs, p.2.length ≤ 1099511627776
  pile : Pile w2.heap.size W qs
  row : W.ownsRow w2.heap.size TSl 1 (.slice (some ⟨gl, 0, none⟩) 8 lc) 8 vs
  was : W.ownsRow w2.heap.size TRng 2 (.slice (some ⟨gw, 0, none⟩) (Lw.length + 3) (Lw.length + 3)) (Lw.length + 3) (pcells (fullR Lw))
  far : ∀ p ∈ qs, p.1.ownBlock ≠ some gw
  bel : Below w2.heap.size w2 W
section
variable {w2 W W' : World} {gl lc gw : Nat} {vs : List Value} {Lw : List (Int × Int)} {qs : List (Value × List (Int × Int))}
theorem OwnW.qlen (h : OwnW w2 gl lc vs gw Lw qs W) : qs.length = 8 := by have := congrArg List.length h.vq; rw [List.length_map, h.len] at this; exact this
theorem OwnW.later (h : OwnW w2 gl lc vs gw Lw qs W) (hb : Below W.heap.size W W') : OwnW w2 gl lc vs gw Lw qs W' :=
  ⟨h.len, h.vq, h.small, h.pile.later hb, owns_later h.row hb, owns_later h.was hb, h.far, h.bel.trans (hb.mono h.bel.size)⟩
theorem OwnW.cell (h : OwnW w2 gl lc vs gw Lw qs W) {j : Nat} {p : Value × List (Int × Int)} (hj : qs[j]? = some p) : W.cell? ⟨gl, j, none⟩ = some p.1 := by
  have c1 := h.row.cells (g := gl) rfl j p.1 (by rw [← h.vq, List.getElem?_map, hj]; rfl)
  rw [WideShapes.add_plain, Nat.zero_add] at c1
  exact c1
/-- a row's two cells -/
theorem OwnW.at_ (h : OwnW w2 gl lc vs gw Lw qs W) {j k c : Nat} {ao : Option Addr} {L : List (Int × Int)} {q : Int × Int} (hj : qs[j]? = some (.slice ao L.length c, L)) (hk : L[k]? = some q) : ∃ g, ao = some ⟨g, 0, none⟩ ∧ W.cell? ⟨g, k * 2, none⟩ = some (.int .i64 q.1) ∧ W.cell? ⟨g, k * 2 + 1, none⟩ = some (.int .i64 q.2) := by
  have ho := h.pile.own _ (List.mem_of_getElem? hj)
  simp only at ho
  obtain ⟨g, c', hv, hg, _⟩ := owns_some ho (by have := (List.getElem?_eq_some_iff.1 hk).1; omega)
  simp only [Value.slice.injEq] at hv
  obtain ⟨rfl, _, rfl⟩ := hv
  obtain ⟨h1, h2⟩ := pcells_get L k q hk
  have c1 := ho.cells (g := g) rfl _ _ h1
  have c2 := ho.cells (g := g) rfl _ _ h2
  rw [WideShapes.add_plain] at c1 c2
  rw [Nat.zero_add] at c1 c2
  exact ⟨g, rfl, c1, c2⟩
/-- how a row looks -/
theorem OwnW.form (h : OwnW w2 gl lc vs gw Lw qs W) {j : Nat} {v : Value} {L : List (Int × Int)} (hj : qs[j]? = some (v, L)) : ∃ ao c, v = .slice ao L.length c := owns_form (h.pile.own _ (List.mem_of_getElem? hj))
/-- the rows that were written over -/
def DoneW (k : Nat) (qs : List (Value × List (Int × Int))) : Prop := ∀ j, j < k → ∀ p, qs[j]? = some p → ∀ x ∈ p.2, x = ((j : Int), -(j : Int))
theorem DoneW.set {k i : Nat} {q : Value × List (Int × Int)} (h : DoneW k qs) (hi : k ≤ i) : DoneW k (qs.set i q) := fun j hj p hp x hx => by
  rw [List.getElem?_set_ne (by omega)] at hp
  exact h j hj p hp x hx
theorem pcells_set (L : List (Int × Int)) (k : Nat) (q : Int × Int) : pcells (L.set k q) = ((pcells L).set (k * 2) (.int .i64 q.1)).set (k * 2 + 1) (.int .i64 q.2) := by
  induction L generalizing k with
  | nil => simp [pcells]
  | cons a t ih =>
    cases k with
    | zero => simp [pcells, pcell]
    | succ k =>
      have e1 : (k + 1) * 2 = k * 2 + 1 + 1 := by omega
      have e2 : (k + 1) * 2 + 1 = k * 2 + 1 + 1 + 1 := by omega
      have h := ih k
      simp only [pcells, List.flatMap_cons, List.set_cons_succ, pcell, List.cons_append, List.nil_append] at h ⊢
      rw [e1]
      simp only [List.set_cons_succ]
      rw [h]
/-- one place is written over -/
theorem OwnW.put (h : OwnW w2 gl lc vs gw Lw qs W) {j k g c : Nat} {L : List (Int × Int)} (hj : qs[j]? = some (.slice (some ⟨g, 0, none⟩) L.length c, L)) (hk : k < L.length) (a b : Int) :
    W.frozen? ⟨g, k * 2, none⟩ = false ∧ (W.setCell ⟨g, k * 2, none⟩ (.int .i64 a)).frozen? ⟨g, k * 2 + 1, none⟩ = false ∧ (∃ x, (W.setCell ⟨g, k * 2, none⟩ (.int .i64 a)).cell? ⟨g, k * 2 + 1, none⟩ = some x) ∧
    OwnW w2 gl lc vs gw Lw (qs.set j (.slice (some ⟨g, 0, none⟩) L.length c, L.set k (a, b))) ((W.setCell ⟨g, k * 2, none⟩ (.int .i64 a)).setCell ⟨g, k * 2 + 1, none⟩ (.int .i64 b)) := by
  have ho := h.pile.own _ (List.mem_of_getElem? hj)
  simp only at ho
  obtain ⟨o1, _⟩ := ho.stored (k * 2) (.int .i64 a)
  obtain ⟨o2, _⟩ := o1.stored (k * 2 + 1) (.int .i64 b)
  have hcap := owns_cap o1
  have hoth : ∀ i, i ≠ g → ((W.setCell ⟨g, k * 2, none⟩ (.int .i64 a)).setCell ⟨g, k * 2 + 1, none⟩ (.int .i64 b)).heap[i]? = W.heap[i]? := fun i hi => (Below.heap_setCell _ _ _ _ hi).trans (Below.heap_setCell _ _ _ _ hi)
  have hg : (Value.slice (some ⟨g, 0, none⟩) L.length c).ownBlock = some g := rfl
  have hB := (owns_block ho hg).1
  have hmem : ∀ p ∈ qs.set j (.slice (some ⟨g, 0, none⟩) L.length c, L.set k (a, b)), (∃ p' ∈ qs, p.1 = p'.1 ∧ p.2.length = p'.2.length) := fun p hp => by
    rcases List.mem_or_eq_of_mem_set hp with hp | rfl
    · exact ⟨p, hp, rfl, rfl⟩
    · exact ⟨(_, L), List.mem_of_getElem? hj, rfl, List.length_set⟩
  refine ⟨ho.frozenAt _, o1.frozenAt _, Option.isSome_iff_exists.1 (hcap.2.2.2.2 _ (by omega)), ⟨h.len, ?_, ?_, ?_, ?_, ?_, ?_, ?_⟩⟩
  · have hlt := (List.getElem?_eq_some_iff.1 hj).1
    rw [List.map_set, h.vq]
    refine List.ext_getElem? fun i => ?_
    rw [List.getElem?_set]
    by_cases e : j = i
    · subst e
      rw [if_pos rfl, ← h.vq, List.getElem?_map, hj, List.length_map, if_pos hlt]; rfl
    · rw [if_neg e]
  · intro p hp
    obtain ⟨p', hp', _, e2⟩ := hmem p hp
    rw [e2]; exact h.small p' hp'
  · refine h.pile.put hj ?_ (fun i hi _ => hoth i (fun e => hi (by rw [e]; exact hg)))
    rw [List.length_set, pcells_set]
    exact o2
  · exact owns_same h.row fun i hi => hoth i (fun e => owns_types ho h.row (by decide) hg (by rw [← e]; exact hi))
  · exact owns_same h.was fun i hi => hoth i (fun e => by
      have := h.far _ (List.mem_of_getElem? hj)
      simp only [Value.ownBlock] at this hi
      exact this (by rw [← e]; exact hi.symm))
  · intro p hp
    obtain ⟨p', hp', e1, _⟩ := hmem p hp
    rw [e1]; exact h.far p' hp'
  · exact (h.bel.setCell (p := ⟨g, k * 2, none⟩) hB _).setCell (p := ⟨g, k * 2 + 1, none⟩) hB _
/-- a row grows elsewhere or in its own room: all is as it was -/
structure GrI (w2 : World) (gl lc : Nat) (vs : List Value) (gw : Nat) (Lw : List (Int × Int)) (qs : List (Value × List (Int × Int))) (H : Nat) (v : Value) (L : List (Int × Int)) (u : Value) (k : Nat) (W : World) : Prop where
  ow : OwnW w2 gl lc vs gw Lw qs W
  uo : W.ownsRow w2.heap.size TRng 2 u (L.length + k) (pcells (L ++ List.replicate k (-9, -9)))
  ub : u.ownBlock = v.ownBlock ∨ ∀ g, u.ownBlock = some g → H ≤ g
  lo : ∀ p ∈ qs, ∀ g, p.1.ownBlock = some g → g < H
  wlo : gw < H
theorem GrI.start (h : OwnW w2 gl lc vs gw Lw qs W) {j : Nat} {v : Value} {L : List (Int × Int)} (hj : qs[j]? = some (v, L)) : GrI w2 gl lc vs gw Lw qs W.heap.size v L v 0 W :=
  ⟨h, by simpa using h.pile.own _ (List.mem_of_getElem? hj), .inl rfl, fun p hp g hg => (owns_block (h.pile.own p hp) hg).2, (owns_block h.was rfl).2⟩
theorem pcells_app (a b : List (Int × Int)) : pcells (a ++ b) = pcells a ++ pcells b := by simp [pcells]
theorem GrI.step {H k j : Nat} {v u u' : Value} {L : List (Int × Int)} (h : GrI w2 gl lc vs gw Lw qs H v L u k W) (hj : qs[j]? = some (v, L)) {cs : Array Value} {ty : TypeId}
    (ho : W'.ownsRow w2.heap.size TRng 2 u' (L.length + k + 1) (pcells (L ++ List.replicate k (-9, -9)) ++ [.int .i64 (-9), .int .i64 (-9)])) (hg : (W.alloc (.cells cs ty)).grownBy W' u.ownBlock) (ha : u'.ownBlock = u.ownBlock ∨ u'.ownBlock = some (W.alloc (.cells cs ty)).heap.size) (hst : W'.ownsRow w2.heap.size TRng 2 u (L.length + k) (pcells (L ++ List.replicate k (-9, -9)))) (hH : H ≤ W.heap.size) :
    GrI w2 gl lc vs gw Lw qs H v L u' (k + 1) W' := by
  have hbA : Below W.heap.size W (W.alloc (.cells cs ty)) := (Below.refl _ _).alloc (Nat.le_refl _) _
  have oA := h.ow.later hbA
  have uA : (W.alloc (.cells cs ty)).ownsRow w2.heap.size TRng 2 u (L.length + k) (pcells (L ++ List.replicate k (-9, -9))) := owns_later h.uo hbA
  have hvm := List.mem_of_getElem? hj
  -- the blocks of the other rows are not the one that is grown
  have oth : ∀ p ∈ qs, p.1.ownBlock ≠ v.ownBlock → ∀ g, p.1.ownBlock = some g → some g ≠ u.ownBlock := fun p hp hne g hg e => by
    rcases h.ub with hu | hu
    · exact hne (by rw [hg, e, hu])
    · have h1 := hu g e.symm
      have h2 := h.lo p hp g hg
      omega
  have keep : ∀ p ∈ qs, W'.ownsRow w2.heap.size TRng 2 p.1 p.2.length (pcells p.2) := fun p hp => by
    by_cases hpv : p.1.ownBlock = v.ownBlock
    · by_cases huv : u.ownBlock = v.ownBlock
      · cases hb : v.ownBlock with
        | none =>
          rcases (oA.pile.own p hp).2 with ⟨e1, e2⟩ | ⟨g, cap, cur, e1, _⟩
          · have hx : pcells p.2 = [] := List.eq_nil_of_length_eq_zero (by rw [(oA.pile.own p hp).1, e2])
            rw [e1, e2, hx]; exact World.ownsRow_nil _ _ _ _
          · exfalso
            rw [hb, e1] at hpv
            simp [Value.ownBlock] at hpv
        | some g =>
          -- it is the row itself
          obtain ⟨i, hi, e⟩ := List.getElem_of_mem hp
          have hjl := (List.getElem?_eq_some_iff.1 hj).1
          have hje := (List.getElem?_eq_some_iff.1 hj).2
          have hpw := List.pairwise_iff_getElem.1 oA.pile.apart
          have hij : i = j := by
            rcases Nat.lt_trichotomy i j with hl | hl | hl
            · exact absurd (by rw [hje]; exact hb) (hpw i j hi hjl hl g (by rw [e, hpv, hb]))
            · exact hl
            · exact absurd (by rw [e, hpv, hb]) (hpw j i hjl hi hl g (by rw [hje]; exact hb))
          have ep : p = (v, L) := by rw [← e, ← hje]; congr
          rw [ep]
          have h1 := oA.pile.own _ hvm
          have h2 := uA
          rw [pcells_app] at h2
          have h3 := hst
          rw [pcells_app] at h3
          exact row_prefix (by omega) h1 h2 huv h3
      · refine owns_same (oA.pile.own p hp) fun g hgp => hg.block g (owns_block (oA.pile.own p hp) hgp).2 (fun e => huv (by rw [← e, ← hgp, hpv]))
    · refine owns_same (oA.pile.own p hp) fun g hgp => hg.block g (owns_block (oA.pile.own p hp) hgp).2 (fun e => oth p hp hpv g hgp e)
  have hus : ∀ g, u.ownBlock = some g → w2.heap.size ≤ g := fun g e => (owns_block uA e).1
  have hgwne : some gw ≠ u.ownBlock := fun e => by
    rcases h.ub with hu | hu
    · exact h.ow.far _ hvm (by rw [← hu, ← e])
    · have := hu gw e.symm
      have := h.wlo
      omega
  refine ⟨⟨h.ow.len, h.ow.vq, h.ow.small, ⟨keep, h.ow.pile.apart⟩, ?_, ?_, h.ow.far, ?_⟩, ?_, ?_, h.lo, h.wlo⟩
  · exact owns_same oA.row fun g hgp => hg.block g (owns_block oA.row hgp).2 (fun e => owns_types uA oA.row (by decide) e.symm hgp)
  · exact owns_same oA.was fun g hgp => by
      simp only [Value.ownBlock, Option.some.injEq] at hgp
      subst hgp
      exact hg.block gw (owns_block oA.was rfl).2 hgwne
  · exact oA.bel.grown hg (Nat.le_trans h.ow.bel.size hbA.size) hus
  · rw [List.replicate_succ', ← List.append_assoc, pcells_app, ← Nat.add_assoc]
    exact ho
  · rcases ha with e | e
    · rw [e]; exact h.ub
    · refine .inr fun g hg' => ?_
      rw [e] at hg'
      simp at hg'
      omega
end
end Go.Proofs.Ytijafckdbhklmab.B
