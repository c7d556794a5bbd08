import Derived.Test.YtckfmpoddmccfaaU31
import Derived.Test.YtckfmpoddmccfaaU37
namespace Go.Proofs.Ytckfmpoddmccfaa
open Go.RowKit
set_option linter.unusedVariables false
set_option maxRecDepth 100000
def capOf : Value → Nat
  | .slice _ _ c => c
  | _ => 0
theorem own_prefix {w w0 : World} {B n m : Nat} {v u : Value} {xs ys zs : List Value} (hv : w.ownsRow B 5 1 v m (xs ++ ys)) (hx : xs.length = n) (hu : w0.ownsRow B 5 1 u n zs) (hb : v.ownBlock = u.ownBlock) (hc : capOf v = capOf u) : w.ownsRow B 5 1 u n xs := by
  rcases hu.2 with ⟨hue, hn⟩ | ⟨g, cap, cur, hue, hg, hcur, hnc, hcm, hsz, htk⟩
  · subst hue; subst hn
    have : xs = [] := List.eq_nil_of_length_eq_zero hx
    subst this
    exact World.ownsRow_nil _ _ _ _
  · subst hue
    rcases hv.2 with ⟨hve, _⟩ | ⟨g', cap', cur', hve, hg', hcur', hnc', hcm', hsz', htk'⟩
    · subst hve; simp [Value.ownBlock] at hb
    · subst hve
      have e1 : g' = g := by simpa [Value.ownBlock] using hb
      have e2 : cap' = cap := hc
      subst e1; subst e2
      refine ⟨by rw [hx]; simp, .inr ⟨g', cap', cur', rfl, hg', hcur', hnc, hcm, hsz', ?_⟩⟩
      have hl := hv.1
      simp at hl
      have := congrArg (List.take n) htk'
      rw [List.take_take] at this
      rw [Nat.mul_one]
      have e3 : min n (m * 1) = n := by omega
      rw [e3] at this
      rw [this, List.take_left' hx]
/-- what an append to a row of one's own comes to, with what becomes of the old block -/
theorem run_append_three {P : Program} (w : World) (t ty : TypeId) (base : Nat) (e : TypeId) (i : TypeInfo) (z : Value) (bytes : Nat) (ht : P.underlying t = some (.slice e)) (hi : P.info? e = some i) (hz : i.zero = some z)
    (hsize : i.size = 1) (hby : i.bytes = bytes) (hzs : z.cells.size = 1) (v : Value) (n : Nat) (xs : List Value) (hown : w.ownsRow base e 1 v n xs)
    (ad : Addr) (m c : Nat) (news : List Value) (hl : news.length = m) (hnews : ∀ j u, news[j]? = some u → w.cell? (ad.add j) = some u) (h1 : ∀ u ∈ news, u.oneCell' = true)
    (h63 : n + m ≤ maxLen) (hbytes : (n + m) * bytes ≤ 140737488355328) (hbase : base ≤ w.heap.size) :
    ∃ v' w', (Builtin.append_ #[t, t] ty #[v, .slice (some ad) m c]).run P w = .ok v' w' ∧ w'.ownsRow base e 1 v' (n + m) (xs ++ news) ∧
      ((v'.ownBlock = v.ownBlock ∧ capOf v' = capOf v ∧ w.grownBy w' v.ownBlock) ∨ ((∀ g, v'.ownBlock = some g → w.heap.size ≤ g) ∧ w.grownBy w' none)) := by
  have hl' : news.length = m * 1 := by omega
  rcases hown.2 with ⟨hv, hn⟩ | ⟨g, cap, cur, hv, hg, hcur, hnc, hcm, hsz, htk⟩
  · subst hv; subst hn
    have hxs : xs = [] := List.eq_nil_of_length_eq_zero (by simpa using hown.1)
    subst hxs
    obtain ⟨v', w', hrun, r1, r2, _⟩ := run_append_own (P := P) w w.heap.size t ty e i z 1 bytes ht hi hz hsize hby hzs (by decide) (.slice none 0 0) 0 [] (World.ownsRow_nil w _ e 1) ad m c news hl' hnews h1 h63 hbytes (Nat.le_refl _)
    refine ⟨v', w', hrun, owns_mono r1 hbase, .inr ⟨fun g hg => ?_, r2⟩⟩
    exact (owns_lt r1 g hg).2
  · subst hv
    by_cases hroom : n + m ≤ cap
    · obtain ⟨w', hrun, r1, r2⟩ := run_append_fits (P := P) w base t ty e i 1 ht hi hsize g n cap xs hown ad m c news hl' hnews h1 hroom
      exact ⟨_, w', hrun, r1, .inl ⟨rfl, rfl, r2⟩⟩
    · obtain ⟨v', w', hrun, r1, r2⟩ := run_append_arg_grows (P := P) w t ty e i z 1 bytes ht hi hz hsize hby hzs (by decide) ⟨g, 0, none⟩ n cap xs (by simpa using hown.1) (by
        intro j u hu
        have hj : j < n * 1 := by
          have := (List.getElem?_eq_some_iff.1 hu).1
          rw [hown.1] at this; exact this
        rw [WideShapes.add_plain, Nat.zero_add, hown.cellAt j hj]; exact hu) ad m c news hl' hnews (by omega) h63 hbytes
      exact ⟨v', w', hrun, owns_mono r1 hbase, .inr ⟨fun g' hg' => (owns_lt r1 g' hg').2, r2⟩⟩
theorem step_append_three {P : Program} {ops : Array Oper} {o : Oper} {a : Act} {w : World} {K : Act → World → Prop} {Q : Exit → Act → World → Prop} {E : Prop}
    (hg : o.guard = none) (s x : Operand) (t : TypeId) (hop : o.op = Op.call { callee := Callee.builtin Builtin.append, args := #[s, x], argTypes := #[t, t] })
    (base : Nat) (e : TypeId) (i : TypeInfo) (z : Value) (bytes : Nat) (ht : P.underlying t = some (.slice e)) (hi : P.info? e = some i) (hz : i.zero = some z)
    (hsize : i.size = 1) (hby : i.bytes = bytes) (hzs : z.cells.size = 1) (v : Value) (n : Nat) (xs : List Value) (hs : a.eval s = v) (hown : w.ownsRow base e 1 v n xs)
    (ad : Addr) (m c : Nat) (news : List Value) (hx : a.eval x = .slice (some ad) m c) (hl : news.length = m) (hnews : ∀ j u, news[j]? = some u → w.cell? (ad.add j) = some u) (h1 : ∀ u ∈ news, u.oneCell' = true)
    (h63 : n + m ≤ maxLen) (hbytes : (n + m) * bytes ≤ 140737488355328) (hbase : base ≤ w.heap.size)
    (hK : ∀ ao cap w', w'.ownsRow base e 1 (.slice ao (n + m) cap) (n + m) (xs ++ news) → (((Value.slice ao (n + m) cap).ownBlock = v.ownBlock ∧ capOf (Value.slice ao (n + m) cap) = capOf v ∧ w.grownBy w' v.ownBlock) ∨ ((∀ g, (Value.slice ao (n + m) cap).ownBlock = some g → w.heap.size ≤ g) ∧ w.grownBy w' none)) → K (a.put o.dst (.slice ao (n + m) cap)) w') :
    if Region.wanted o (yielded ops a.tmps) = true then Oper.wp P o a w K Q else E := by
  have hw : Region.wanted o (yielded ops a.tmps) = true := by simp [Region.wanted, hg]
  rw [if_pos hw]
  obtain ⟨v', w', hrun, r1, r2⟩ := run_append_three (P := P) w t o.type base e i z bytes ht hi hz hsize hby hzs v n xs hown ad m c news hl hnews h1 h63 hbytes hbase
  obtain ⟨ao, cap, rfl⟩ := owns_form r1
  unfold Oper.wp
  simp [execOp, hop, resolve, invoke, builtin, hs, hx, hrun, Result.andThen]
  exact hK ao cap w' r1 r2
theorem wpList_append_three {P : Program} (w : World) {ops : Array Oper} {rest : List Oper} {o : Oper} {a : Act} {Q : Exit → Act → World → Prop} (hgd : o.guard = none) (s x : Operand) (t : TypeId)
    (ho : o.op = .call { callee := .builtin .append, args := #[s, x], argTypes := #[t, t] })
    (base : Nat) (e : TypeId) (i : TypeInfo) (z : Value) (bytes : Nat) (ht : P.underlying t = some (.slice e)) (hi : P.info? e = some i) (hz : i.zero = some z)
    (hsize : i.size = 1) (hby : i.bytes = bytes) (hzs : z.cells.size = 1)
    (v : Value) (n : Nat) (xs : List Value) (hs : a.eval s = v) (hown : w.ownsRow base e 1 v n xs)
    (ad : Addr) (m c : Nat) (news : List Value) (hx : a.eval x = .slice (some ad) m c) (hl : news.length = m)
    (hnews : ∀ j u, news[j]? = some u → w.cell? (ad.add j) = some u) (h1 : ∀ u ∈ news, u.oneCell' = true)
    (h63 : n + m ≤ maxLen) (hbytes : (n + m) * bytes ≤ 140737488355328) (hbase : base ≤ w.heap.size)
    (h : ∀ ao cap w', w'.ownsRow base e 1 (.slice ao (n + m) cap) (n + m) (xs ++ news) → (((Value.slice ao (n + m) cap).ownBlock = v.ownBlock ∧ capOf (Value.slice ao (n + m) cap) = capOf v ∧ w.grownBy w' v.ownBlock) ∨ ((∀ g, (Value.slice ao (n + m) cap).ownBlock = some g → w.heap.size ≤ g) ∧ w.grownBy w' none)) → wpList P ops Q rest (a.put o.dst (.slice ao (n + m) cap)) w') : wpList P ops Q (o :: rest) a w := by
  obtain ⟨v', w', hrun, r1, r2⟩ := run_append_three (P := P) w t o.type base e i z bytes ht hi hz hsize hby hzs v n xs hown ad m c news hl hnews h1 h63 hbytes hbase
  obtain ⟨ao, cap, rfl⟩ := owns_form r1
  refine wpList_plain hgd fun K hK => ?_
  unfold Oper.wp execOp
  simp only [ho, resolve, invoke, builtin, Sem.run_bind, Sem.run_pure, Result.andThen_ok, List.map_toArray, List.map_cons, List.map_nil, hs, hx, hrun]
  exact hK _ _ (h ao cap w' r1 r2)
def mkb (i k : Nat) : Nat := (13 * i + 3 * k + 2) % 256
def marks (i n : Nat) : List Nat := (List.range n).map (mkb i)
theorem marks_length (i n : Nat) : (marks i n).length = n := by simp [marks]
theorem marks_succ (i n : Nat) : marks i (n + 1) = marks i n ++ [mkb i n] := by simp [marks, List.range_succ]
theorem marks_get (i n k : Nat) (h : k < n) : (marks i n)[k]? = some (mkb i k) := by simp [marks, h]
def tl (i k : Nat) : Nat := (120 + i + k) % 256
def tails (i n : Nat) : List Nat := (List.range n).map (tl i)
theorem tails_length (i n : Nat) : (tails i n).length = n := by simp [tails]
theorem tails_succ (i n : Nat) : tails i (n + 1) = tails i n ++ [tl i n] := by simp [tails, List.range_succ]
theorem tails_get (i n k : Nat) (h : k < n) : (tails i n)[k]? = some (tl i k) := by simp [tails, h]
def Sep (a b : Value) : Prop := ∀ g, a.ownBlock = some g → b.ownBlock ≠ some g
theorem Sep.symm {a b : Value} (h : Sep a b) : Sep b a := fun g hb ha => h g ha hb
def OwnSet (n : Nat) (L : Nat → Value) (g : Nat) : Prop := ∃ i, i < n ∧ (L i).ownBlock = some g
/-- lists that were handed out -/
structure Lists (w : World) (B lb lo n : Nat) (L : Nat → Value) (len : Nat → Nat) : Prop where
  cell : ∀ i, i < n → w.cell? ⟨lb, lo + i, none⟩ = some (L i)
  own : ∀ i, i < n → ∃ C : List Nat, w.ownsRow B 5 1 (L i) (len i) (C.map bv)
  sep : ∀ i j, i < n → j < n → i ≠ j → Sep (L i) (L j)
  off : ∀ i, i < n → (L i).ownBlock ≠ some lb
  small : ∀ i, i < n → len i ≤ 4398046511104
  base : B ≤ w.heap.size
theorem Lists.lt {w : World} {B lb lo n : Nat} {L : Nat → Value} {len : Nat → Nat} (h : Lists w B lb lo n L len) (g : Nat) (hg : OwnSet n L g) : g < w.heap.size := by
  obtain ⟨i, hi, e⟩ := hg
  obtain ⟨C, ho⟩ := h.own i hi
  exact (owns_lt ho g e).1
theorem Lists.form {w : World} {B lb lo n : Nat} {L : Nat → Value} {len : Nat → Nat} (h : Lists w B lb lo n L len) (i : Nat) (hi : i < n) : ∃ ao cap, L i = .slice ao (len i) cap ∧ (0 < len i → ∃ g, ao = some ⟨g, 0, none⟩) := by
  obtain ⟨C, ho⟩ := h.own i hi
  rcases ho.2 with ⟨hv, hn⟩ | ⟨g, cap, cur, hv, _⟩
  · exact ⟨none, 0, by rw [hv, hn], fun h => by omega⟩
  · exact ⟨_, _, hv, fun _ => ⟨g, rfl⟩⟩
theorem Lists.cellIn {w wr : World} {B lb lo n : Nat} {L : Nat → Value} {len : Nat → Nat} (h : Lists w B lb lo n L len) (k : KeptIn (OwnSet n L) w wr) (i : Nat) (hi : i < n) : wr.cell? ⟨lb, lo + i, none⟩ = some (L i) := by
  have hc := h.cell i hi
  have hlt := World.block_lt_of_cell? _ _ hc
  have hb := k.block lb hlt (fun ⟨j, hj, e⟩ => h.off j hj e)
  exact (World.cell?_of_block (w := w) (a := ⟨lb, lo + i, none⟩) hb).trans hc
/-- the first part: marks are laid -/
structure AInv (w wr : World) (B n : Nat) (L : Nat → Value) (len : Nat → Nat) (i k : Nat) : Prop where
  done : ∀ j, j < i → j < n → wr.ownsRow B 5 1 (L j) (len j) ((marks j (len j)).map bv)
  cur : i < n → ∃ C : List Nat, wr.ownsRow B 5 1 (L i) (len i) ((marks i k ++ C).map bv)
  rest : ∀ j, i < j → j < n → ∃ C : List Nat, wr.ownsRow B 5 1 (L j) (len j) (C.map bv)
  kept : KeptIn (OwnSet n L) w wr
theorem AInv.start {w : World} {B lb lo n : Nat} {L : Nat → Value} {len : Nat → Nat} (h : Lists w B lb lo n L len) : AInv w w B n L len 0 0 :=
  ⟨fun j hj => by omega, fun hn => h.own 0 hn, fun j _ hj => h.own j hj, KeptIn.refl _ _⟩
theorem AInv.next {w wr : World} {B n : Nat} {L : Nat → Value} {len : Nat → Nat} {i : Nat} (h : AInv w wr B n L len i (len i)) (hi : i < n) : AInv w wr B n L len (i + 1) 0 := by
  refine ⟨fun j hj hn => ?_, fun hn => h.rest (i + 1) (by omega) hn, fun j hj hn => h.rest j (by omega) hn, h.kept⟩
  by_cases e : j = i
  · subst e
    obtain ⟨C, ho⟩ := h.cur hn
    have hl := ho.1
    simp [marks_length] at hl
    subst hl
    simpa using ho
  · exact h.done j (by omega) hn
theorem AInv.store {w wr : World} {B lb lo n : Nat} {L : Nat → Value} {len : Nat → Nat} {i k g cap : Nat} (h0 : Lists w B lb lo n L len) (h : AInv w wr B n L len i k) (hi : i < n) (hk : k < len i) (hL : L i = .slice (some ⟨g, 0, none⟩) (len i) cap) :
    (∃ x, wr.cell? ⟨g, k, none⟩ = some x) ∧ wr.frozen? ⟨g, k, none⟩ = false ∧ AInv w (wr.setCell ⟨g, k, none⟩ (bv (mkb i k))) B n L len i (k + 1) := by
  obtain ⟨C, ho⟩ := h.cur hi
  have hl := ho.1
  simp [marks_length] at hl
  obtain ⟨c, C', rfl⟩ : ∃ c C', C = c :: C' := by
    cases C with
    | nil => simp at hl; omega
    | cons c C' => exact ⟨c, C', rfl⟩
  have hgi : (L i).ownBlock = some g := by rw [hL]; rfl
  rw [hL] at ho
  obtain ⟨hs, hgr⟩ := ho.stored k (bv (mkb i k))
  have hother : ∀ j, j < n → j ≠ i → ∀ g', (L j).ownBlock = some g' → (wr.setCell ⟨g, k, none⟩ (bv (mkb i k))).heap[g']? = wr.heap[g']? := fun j hj hne g' hg' =>
    Below.heap_setCell _ _ _ _ (fun e => h0.sep j i hj hi hne g' hg' (by rw [hgi]; exact congrArg some (show g = g' from e.symm)))
  refine ⟨⟨_, (ho.cellAt k (by omega)).trans (List.getElem?_eq_getElem (by simp [marks_length]))⟩, ho.frozenAt k, ⟨fun j hj hn => owns_same (h.done j hj hn) (hother j hn (by omega)), fun _ => ⟨C', ?_⟩, fun j hj hn => ?_, ?_⟩⟩
  · rw [hL]
    have e : ((marks i k ++ c :: C').map bv).set k (bv (mkb i k)) = (marks i (k + 1) ++ C').map bv := by
      rw [marks_succ, List.append_assoc, List.map_append, List.map_append, List.set_append]
      simp [marks_length]
    rw [e] at hs; exact hs
  · obtain ⟨D, hD⟩ := h.rest j hj hn
    exact ⟨D, owns_same hD (hother j hn (by omega))⟩
  · refine h.kept.trans (T := fun x => x = g) ⟨hgr.os, hgr.tape, hgr.output, hgr.size, fun b hb hS => hgr.block b hb (fun e => hS (Option.some.inj e))⟩ (fun b _ hS e => ?_)
    subst e; exact hS ⟨i, hi, hgi⟩
/-- the bytes of a list can be read -/
def MRow (w : World) (v : Value) (l : List Nat) : Prop := ∀ g, v.ownBlock = some g → ∀ k x, l[k]? = some x → w.cell? ⟨g, k, none⟩ = some (bv x)
theorem mrow_own {w : World} {B n : Nat} {v : Value} {l m : List Nat} (h : w.ownsRow B 5 1 v n ((l ++ m).map bv)) : MRow w v l := by
  intro g hg k x hx
  have hk := (List.getElem?_eq_some_iff.1 hx).1
  have := h.cells hg k (bv x) (by rw [List.getElem?_map, List.getElem?_append_left hk, hx]; rfl)
  rwa [WideShapes.add_plain, Nat.zero_add] at this
theorem mrow_same {w w' : World} {v : Value} {l : List Nat} (h : MRow w v l) (hs : ∀ g, v.ownBlock = some g → w'.heap[g]? = w.heap[g]?) : MRow w' v l := fun g hg k x hx =>
  (World.cell?_of_block (w := w) (a := ⟨g, k, none⟩) (hs g hg)).trans (h g hg k x hx)
/-- the second part: each is grown -/
structure DInv (w wr : World) (B n : Nat) (L : Nat → Value) (len : Nat → Nat) (G : Nat → Value) (u : Value) (i : Nat) (v : Value) (k : Nat) : Prop where
  rest : ∀ j, i < j → j < n → wr.ownsRow B 5 1 (L j) (len j) ((marks j (len j)).map bv)
  read : ∀ j, j < n → MRow wr (L j) (marks j (len j))
  gr : ∀ j, j < i → wr.ownsRow B 5 1 (G j) (len j + 40) ((marks j (len j) ++ tails j 40).map bv)
  sep : ∀ j, j < i → ∀ j', j' < n → j' ≠ j → Sep (G j) (L j')
  row : wr.ownsRow w.heap.size 22 1 u i ((List.range i).map G)
  kept : KeptIn (OwnSet n L) w wr
  cur : wr.ownsRow B 5 1 v (len i + k) ((marks i (len i) ++ tails i k).map bv)
  vsep : ∀ j, j < n → j ≠ i → Sep v (L j)
  gsep : ∀ j, j < i → Sep v (G j)
  vblk : (v.ownBlock = (L i).ownBlock ∧ capOf v = capOf (L i)) ∨ Sep v (L i)
  vset : ∀ g, v.ownBlock = some g → OwnSet n L g ∨ w.heap.size ≤ g
  lown : ∀ j, j < n → wr.ownsRow B 5 1 (L j) (len j) ((marks j (len j)).map bv)
structure CInv (w wr : World) (B n : Nat) (L : Nat → Value) (len : Nat → Nat) (G : Nat → Value) (u : Value) (i : Nat) : Prop where
  rest : ∀ j, i ≤ j → j < n → wr.ownsRow B 5 1 (L j) (len j) ((marks j (len j)).map bv)
  read : ∀ j, j < n → MRow wr (L j) (marks j (len j))
  gr : ∀ j, j < i → wr.ownsRow B 5 1 (G j) (len j + 40) ((marks j (len j) ++ tails j 40).map bv)
  sep : ∀ j, j < i → ∀ j', j' < n → j' ≠ j → Sep (G j) (L j')
  row : wr.ownsRow w.heap.size 22 1 u i ((List.range i).map G)
  kept : KeptIn (OwnSet n L) w wr
  lown : ∀ j, j < n → wr.ownsRow B 5 1 (L j) (len j) ((marks j (len j)).map bv)
theorem CInv.start {w wr : World} {B n : Nat} {L : Nat → Value} {len : Nat → Nat} {k : Nat} (h : AInv w wr B n L len n k) (G : Nat → Value) : CInv w wr B n L len G (.slice none 0 0) 0 :=
  ⟨fun j _ hj => h.done j hj hj, fun j hj => mrow_own (m := []) (by rw [List.append_nil]; exact h.done j hj hj), fun j hj => by omega, fun j hj => by omega, World.ownsRow_nil _ _ _ _, h.kept, fun j hj => h.done j hj hj⟩
theorem CInv.begin {w wr : World} {B lb lo n i : Nat} {L : Nat → Value} {len : Nat → Nat} {G : Nat → Value} {u : Value} (h0 : Lists w B lb lo n L len) (h : CInv w wr B n L len G u i) (hi : i < n) : DInv w wr B n L len G u i (L i) 0 :=
  ⟨fun j hj => h.rest j (by omega), h.read, h.gr, h.sep, h.row, h.kept, by simpa [tails] using h.rest i (Nat.le_refl _) hi, fun j hj hne => h0.sep i j hi hj (by omega), fun j hj => (h.sep j hj i hi (by omega)).symm, .inl ⟨rfl, rfl⟩, fun g hg => .inl ⟨i, hi, hg⟩, h.lown⟩
theorem DInv.grow {w wr W0 w1 : World} {B lb lo n i k : Nat} {L : Nat → Value} {len : Nat → Nat} {G : Nat → Value} {u v v' : Value} (h0 : Lists w B lb lo n L len) (hi : i < n) (h : DInv w wr B n L len G u i v k) (hb : Below wr.heap.size wr W0)
    (ho : w1.ownsRow B 5 1 v' (len i + k + 1) ((marks i (len i) ++ tails i k).map bv ++ [bv (tl i k)]))
    (hf : (v'.ownBlock = v.ownBlock ∧ capOf v' = capOf v ∧ W0.grownBy w1 v.ownBlock) ∨ ((∀ g, v'.ownBlock = some g → W0.heap.size ≤ g) ∧ W0.grownBy w1 none)) : DInv w w1 B n L len G u i v' (k + 1) := by
  have ho' : w1.ownsRow B 5 1 v' (len i + (k + 1)) ((marks i (len i) ++ tails i (k + 1)).map bv) := by
    rw [tails_succ, ← List.append_assoc, List.map_append]; exact ho
  have hg : W0.grownBy w1 v.ownBlock := by
    rcases hf with ⟨_, _, hg⟩ | ⟨_, hg⟩
    · exact hg
    · exact ⟨hg.os, hg.tape, hg.output, hg.size, fun b hb' _ => hg.block b hb' (by simp)⟩
  have hblk : ∀ b, b < wr.heap.size → v.ownBlock ≠ some b → w1.heap[b]? = wr.heap[b]? := fun b hb' hne => by
    rw [hg.block b (Nat.lt_of_lt_of_le hb' hb.size) (fun e => hne e.symm)]; exact hb.block b hb'
  have hsz : wr.heap.size ≤ w1.heap.size := Nat.le_trans hb.size hg.size
  have hLt : ∀ j, j < n → ∀ g, (L j).ownBlock = some g → g < wr.heap.size := fun j hj g hg' => Nat.lt_of_lt_of_le (h0.lt g ⟨j, hj, hg'⟩) h.kept.size
  have hvt : ∀ g, v.ownBlock = some g → ∃ cur, wr.heap[g]? = some (.cells cur 5 (0, 0)) := fun g hg' => owns_type h.cur g hg'
  -- a block that v is apart from stays, and v' is apart from it
  have hsep : ∀ x : Value, (∀ g, x.ownBlock = some g → g < wr.heap.size) → Sep v x → Sep v' x := fun x hx hs g hg' e => by
    rcases hf with ⟨hf1, _⟩ | ⟨hf1, _⟩
    · exact hs g (hf1 ▸ hg') e
    · have h1 := hf1 g hg'
      have h2 := hx g e
      have h3 := hb.size
      omega
  have hGt : ∀ j, j < i → ∀ g, (G j).ownBlock = some g → g < wr.heap.size := fun j hj g hg' => (owns_lt (h.gr j hj) g hg').1
  refine ⟨fun j hj hn => ?_, fun j hn => ?_, fun j hj => ?_, h.sep, ?_, ?_, ho', fun j hj hne => hsep _ (hLt j hj) (h.vsep j hj hne), fun j hj => hsep _ (hGt j hj) (h.gsep j hj), ?_, fun g hg' => ?_, fun j hn => ?_⟩
  · exact owns_same (h.rest j hj hn) fun g hg' => hblk g (hLt j hn g hg') (fun e => h.vsep j hn (by omega) g e hg')
  · by_cases e : j = i
    · subst e
      rcases h.vblk with ⟨hv, _⟩ | hv
      · rcases hf with ⟨hf1, _⟩ | ⟨hf1, hg2⟩
        · intro g hg' k' x hx
          exact mrow_own (by rw [List.map_append] at ho'; rw [List.map_append]; exact ho') g (by rw [hf1, hv]; exact hg') k' x hx
        · refine mrow_same (h.read j hn) fun g hg' => ?_
          rw [hg2.block g (Nat.lt_of_lt_of_le (hLt j hn g hg') hb.size) (by simp)]
          exact hb.block g (hLt j hn g hg')
      · exact mrow_same (h.read j hn) fun g hg' => hblk g (hLt j hn g hg') (fun e => hv g e hg')
    · exact mrow_same (h.read j hn) fun g hg' => hblk g (hLt j hn g hg') (fun e' => h.vsep j hn e g e' hg')
  · exact owns_same (h.gr j hj) fun g hg' => hblk g (hGt j hj g hg') (fun e => h.gsep j hj g e hg')
  · refine owns_same h.row fun g hg' => hblk g (owns_lt h.row g hg').1 (fun e => ?_)
    obtain ⟨c1, e1⟩ := owns_type h.row g hg'
    obtain ⟨c2, e2⟩ := hvt g e
    rw [e1] at e2; simp at e2
  · refine ⟨hg.os.trans (hb.os.trans h.kept.os), hg.tape.trans (hb.tape.trans h.kept.tape), hg.output.trans (hb.output.trans h.kept.output), Nat.le_trans h.kept.size hsz, fun b hb' hS => ?_⟩
    rw [hblk b (Nat.lt_of_lt_of_le hb' h.kept.size) (fun e => ?_)]
    · exact h.kept.block b hb' hS
    · rcases h.vset b e with h1 | h1
      · exact hS h1
      · omega
  · rcases h.vblk with ⟨hv, hvc⟩ | hv
    · rcases hf with ⟨hf1, hf2, _⟩ | ⟨hf1, _⟩
      · exact .inl ⟨hf1.trans hv, hf2.trans hvc⟩
      · refine .inr fun g hg' e => ?_
        have h1 := hf1 g hg'
        have h2 := hLt i hi g e
        have h3 := hb.size
        omega
    · exact .inr (hsep _ (hLt i hi) hv)
  · rcases hf with ⟨hf1, _⟩ | ⟨hf1, _⟩
    · exact h.vset g (hf1 ▸ hg')
    · right
      have h1 := hf1 g hg'
      have h2 := h.kept.size
      have h3 := hb.size
      omega
  · by_cases e : j = i
    · subst e
      rcases h.vblk with ⟨hv, hvc⟩ | hv
      · rcases hf with ⟨hf1, hf2, _⟩ | ⟨hf1, hg2⟩
        · exact own_prefix (by rw [List.map_append] at ho'; exact ho') (by simp [marks_length]) (h.lown j hn) (hf1.trans hv) (hf2.trans hvc)
        · refine owns_same (h.lown j hn) fun g hg' => ?_
          rw [hg2.block g (Nat.lt_of_lt_of_le (hLt j hn g hg') hb.size) (by simp)]
          exact hb.block g (hLt j hn g hg')
      · exact owns_same (h.lown j hn) fun g hg' => hblk g (hLt j hn g hg') (fun e => hv g e hg')
    · exact owns_same (h.lown j hn) fun g hg' => hblk g (hLt j hn g hg') (fun e' => h.vsep j hn e g e' hg')
def updV (G : Nat → Value) (i : Nat) (v : Value) (j : Nat) : Value := if j = i then v else G j
theorem DInv.finish {w wr W0 w1 : World} {B lb lo n i : Nat} {L : Nat → Value} {len : Nat → Nat} {G : Nat → Value} {u u' v : Value} (h0 : Lists w B lb lo n L len) (hi : i < n) (h : DInv w wr B n L len G u i v 40) (hb : Below wr.heap.size wr W0)
    (ho : w1.ownsRow w.heap.size 22 1 u' (i + 1) ((List.range i).map G ++ [v])) (hg : W0.grownBy w1 u.ownBlock) : CInv w w1 B n L len (updV G i v) u' (i + 1) := by
  have hblk : ∀ b, b < wr.heap.size → u.ownBlock ≠ some b → w1.heap[b]? = wr.heap[b]? := fun b hlt hne => by
    rw [hg.block b (Nat.lt_of_lt_of_le hlt hb.size) (fun e => hne e.symm)]; exact hb.block b hlt
  have hL : ∀ j, j < n → ∀ g, (L j).ownBlock = some g → w1.heap[g]? = wr.heap[g]? := fun j hj g hg' => by
    have hlt := h0.lt g ⟨j, hj, hg'⟩
    exact hblk g (Nat.lt_of_lt_of_le hlt h.kept.size) (fun e => by have := (owns_lt h.row g e).2; omega)
  have hV : ∀ (x : Value) (m : Nat) (xs : List Value), wr.ownsRow B 5 1 x m xs → w1.ownsRow B 5 1 x m xs := fun x m xs hx => owns_same hx fun g hg' => hblk g (owns_lt hx g hg').1 (fun e => by
    obtain ⟨c1, e1⟩ := owns_type h.row g e
    obtain ⟨c2, e2⟩ := owns_type hx g hg'
    rw [e1] at e2; simp at e2)
  refine ⟨fun j hj hn => hV _ _ _ (h.rest j (by omega) hn), fun j hn => mrow_same (h.read j hn) (hL j hn), fun j hj => ?_, fun j hj j' hj' hne => ?_, ?_, ?_, fun j hn => hV _ _ _ (h.lown j hn)⟩
  · by_cases e : j = i
    · subst e; simp only [updV, if_pos]; exact hV _ _ _ h.cur
    · simp only [updV, if_neg e]; exact hV _ _ _ (h.gr j (by omega))
  · by_cases e : j = i
    · subst e; simp only [updV, if_pos]; exact h.vsep j' hj' hne
    · simp only [updV, if_neg e]; exact h.sep j (by omega) j' hj' hne
  · have e : (List.range (i + 1)).map (updV G i v) = (List.range i).map G ++ [v] := by
      rw [List.range_succ, List.map_append]
      congr 1
      · apply List.map_congr_left
        intro j hj
        have : j < i := List.mem_range.1 hj
        simp only [updV, if_neg (show ¬ j = i by omega)]
      · simp [updV]
    rw [e]; exact ho
  · refine ⟨hg.os.trans (hb.os.trans h.kept.os), hg.tape.trans (hb.tape.trans h.kept.tape), hg.output.trans (hb.output.trans h.kept.output), Nat.le_trans h.kept.size (Nat.le_trans hb.size hg.size), fun b hb' hS => ?_⟩
    rw [hblk b (Nat.lt_of_lt_of_le hb' h.kept.size) (fun e => by have := (owns_lt h.row b e).2; omega)]
    exact h.kept.block b hb' hS
/-- behind mark the lists are again lists -/
theorem Lists.again {w w' : World} {B lb lo n : Nat} {L : Nat → Value} {len : Nat → Nat} (h : Lists w B lb lo n L len) (k : KeptIn (OwnSet n L) w w') (ho : ∀ i, i < n → ∃ C : List Nat, w'.ownsRow B 5 1 (L i) (len i) (C.map bv)) : Lists w' B lb lo n L len :=
  ⟨fun i hi => h.cellIn k i hi, ho, h.sep, h.off, h.small, Nat.le_trans h.base k.size⟩
end Go.Proofs.Ytckfmpoddmccfaa
namespace Go.Proofs.Ytckfmpoddmccfaa
open Go.RowKit
set_option linter.unusedVariables false
set_option maxRecDepth 100000
theorem infoBS : (Try.prog.info? 22).map (fun i => (i.zero, i.size, i.bytes)) = some (some (.slice none 0 0), 1, 24) := by kernel_rfl
theorem mkb_val (i k : Nat) : IntKind.u8.wrap (13 * (i : Int) + 3 * (k : Int) + 2) = ((mkb i k : Nat) : Int) := by
  rw [IntKind.wrap_u8]; unfold mkb; omega
theorem tl_val (i k : Nat) : IntKind.u8.wrap (120 + (i : Int) + (k : Int)) = ((tl i k : Nat) : Int) := by
  rw [IntKind.wrap_u8]; unfold tl; omega
set_option maxHeartbeats 4000000 in
theorem own_some (B lb lo n ncap : Nat) (L : Nat → Value) (len : Nat → Nat) (w : World) (hn : n ≤ 64) (h0 : Lists w B lb lo n L len) :
    Calls Try.prog 17 #[.slice (some ⟨lb, lo, none⟩) n ncap] w fun e w' => e = .returned (.bool true) ∧ KeptIn (OwnSet n L) w w' ∧ ∀ i, i < n → ∃ C : List Nat, w'.ownsRow B 5 1 (L i) (len i) (C.map bv) := by
  obtain ⟨i0, hi, hz0, hz1, hz2⟩ := info_parts Try.info5
  obtain ⟨i1, hi', hz0', hz1', hz2'⟩ := info_parts infoBS
  have H0 : Hid (Lists w B lb lo n L len) := h0
  clear h0
  go_enter Try.func17, Try.ntmps17
  go_wp2
  go_loopw [3] (fun iv wr => ∃ i : Nat, i ≤ n ∧ iv = .int .i64 i ∧ AInv w wr B n L len i 0) (fun iv _ => n - (intOf iv).toNat)
  case atStart => exact ⟨0, Nat.zero_le _, rfl, AInv.start H0.out⟩
  case round =>
    obtain ⟨i, hin, rfl, hA⟩ := hrel
    have HA : Hid (AInv w wr B n L len i 0) := hA
    clear hA
    by_cases hlt : i < n
    · obtain ⟨ao, cap, hL, hpos⟩ := H0.out.form i hlt
      have HLf : Hid (L i = .slice ao (len i) cap) := hL
      have HPos : Hid (0 < len i → ∃ g, ao = some ⟨g, 0, none⟩) := hpos
      have hsm := H0.out.small i hlt
      clear hL hpos
      go_wp2
      go_loopw [4] (fun kv wr2 => ∃ k : Nat, k ≤ len i ∧ kv = .int .i64 k ∧ AInv w wr2 B n L len i k) (fun kv _ => len i - (intOf kv).toNat)
      case atStart => exact ⟨0, Nat.zero_le _, rfl, HA.out⟩
      case round =>
        obtain ⟨k, hk, rfl, hA2⟩ := hrel
        have hc : wr.cell? ⟨lb, lo + i, none⟩ = some (.slice ao (len i) cap) := by rw [← HLf.out]; exact H0.out.cellIn hA2.kept i hlt
        have HA2 : Hid (AInv w wr B n L len i k) := hA2
        clear hA2
        by_cases hlk : k < len i
        · obtain ⟨g, rfl⟩ := HPos.out (by omega)
          obtain ⟨⟨x, hx⟩, hfz, hst⟩ := AInv.store H0.out HA2.out hlt hlk HLf.out
          have HSt : Hid (AInv w (wr.setCell ⟨g, k, none⟩ (.int .u8 ((mkb i k : Nat) : Int))) B n L len i (k + 1)) := hst
          clear hst
          have hv := mkb_val i k
          go_wp2
          go_roundw
          case rel => exact ⟨k + 1, by omega, by go_num, HSt.out⟩
          case measure => simp [intOf]; omega
        · obtain rfl : k = len i := by omega
          have HNx : Hid (AInv w wr B n L len (i + 1) 0) := HA2.out.next hlt
          go_wp2
          go_roundw
          case rel => exact ⟨i + 1, by omega, by go_num, HNx.out⟩
          case measure => simp [intOf]; omega
    · have hin' : n = i := by omega
      subst hin'
      have HC0 : Hid (CInv w wr B n L len (fun _ => .slice none 0 0) (.slice none 0 0) 0) := CInv.start HA.out _
      clear HA hlt hin
      go_wp2
      go_loopw [5, 6] (fun u iv wr2 => ∃ (i : Nat) (G : Nat → Value), i ≤ n ∧ iv = .int .i64 i ∧ CInv w wr2 B n L len G u i) (fun _ iv _ => n - (intOf iv).toNat)
      case atStart => exact ⟨0, _, Nat.zero_le _, rfl, HC0.out⟩
      case round =>
        obtain ⟨i, G, hin, rfl, hC⟩ := hrel
        have HC : Hid (CInv w wr B n L len G u5 i) := hC
        clear hC
        by_cases hlt : i < n
        · obtain ⟨ao, cap, hL, hpos⟩ := H0.out.form i hlt
          have HLf : Hid (L i = .slice ao (len i) cap) := hL
          have hsm := H0.out.small i hlt
          have hc : wr.cell? ⟨lb, lo + i, none⟩ = some (.slice ao (len i) cap) := by rw [← hL]; exact H0.out.cellIn HC.out.kept i hlt
          have HD0 : Hid (DInv w wr B n L len G u5 i (.slice ao (len i) cap) 0) := by rw [← hL]; exact HC.out.begin H0.out hlt
          clear hL hpos
          go_wp2
          go_loopw [7, 8] (fun v kv wr3 => ∃ (k : Nat), k ≤ 40 ∧ kv = .int .i64 k ∧ DInv w wr3 B n L len G u5 i v k) (fun _ kv _ => 40 - (intOf kv).toNat)
          case atStart => exact ⟨0, by omega, rfl, HD0.out⟩
          case round =>
            obtain ⟨k, hk, rfl, hD⟩ := hrel
            obtain ⟨vao, vcap, hv⟩ := owns_form hD.cur
            subst hv
            have HD : Hid (DInv w wr B n L len G u5 i (.slice vao (len i + k) vcap) k) := hD
            clear hD
            by_cases hlk : k < 40
            · have hval := tl_val i k
              have HO : Hid (∀ o, (wr.alloc o).ownsRow B 5 1 (.slice vao (len i + k) vcap) (len i + k) ((marks i (len i) ++ tails i k).map bv)) := fun o => HD.out.cur.alloc o
              have HZ : Hid (B ≤ wr.heap.size) := Nat.le_trans H0.out.base HD.out.kept.size
              go_wp2_with (at_builtin; refine wpList_append_three _ rfl (.tmp 54) (.tmp 60) 22 rfl B 5 i0 (.int .u8 0) 1 Try.underlying22 hi hz0 hz1 hz2 rfl (.slice vao (len i + k) vcap) (len i + k) ((marks i (len i) ++ tails i k).map bv) rfl (HO.out _) ⟨wr.heap.size, 0, none⟩ 1 1 [.int .u8 ((tl i k : Nat) : Int)] rfl rfl (news_one wr _ _ _ rfl) (by simp [Value.oneCell']) (by unfold maxLen; omega) (by omega) (by have := HZ.out; simp; omega) ?_)
              intro ao2 cap2 w1 ho hf
              have HN : Hid (DInv w w1 B n L len G u5 i (.slice ao2 (len i + k + 1) cap2) (k + 1)) := DInv.grow H0.out hlt HD.out ((Below.refl wr.heap.size wr).alloc (Nat.le_refl _) (.cells #[.int .u8 ((tl i k : Nat) : Int)] 5)) (by rw [List.map_append, List.append_assoc]; exact ho) (hf.imp id (And.imp_left fun h g hg => by have := h g hg; simpa using this))
              clear ho hf
              go_wp2
              go_roundw
              case rel => exact ⟨k + 1, by omega, by go_num, HN.out⟩
              case measure => simp [intOf]; omega
            · have hk7 : k = 40 := by omega
              subst hk7
              have HU : Hid (∀ o, (wr.alloc o).ownsRow w.heap.size 22 1 u5 i ((List.range i).map G)) := fun o => HD.out.row.alloc o
              have HZ : Hid (w.heap.size ≤ wr.heap.size) := HD.out.kept.size
              go_wp2_with (at_builtin; refine wpList_append_two _ rfl (.tmp 62) (.tmp 64) 35 rfl w.heap.size 22 i1 (.slice none 0 0) 24 Try.underlying35 hi' hz0' hz1' hz2' rfl u5 i _ rfl (HU.out _) (some ⟨wr.heap.size, 0, none⟩) 1 1 [.slice vao (len i + 40) vcap] rfl (by simp) rfl (news_one _ _ _) (by simp [Value.oneCell']) (by unfold maxLen; omega) (by omega) (by have := HZ.out; simp; omega) ?_)
              intro u' w1 ho hg _
              have HN : Hid (CInv w w1 B n L len (updV G i (.slice vao (len i + 40) vcap)) u' (i + 1)) := DInv.finish H0.out hlt HD.out ((Below.refl _ _).alloc (Nat.le_refl _) _) ho hg
              clear ho hg
              go_wp2
              go_roundw
              case rel => exact ⟨i + 1, _, by omega, by go_num, HN.out⟩
              case measure => simp [intOf]; omega
        · have hin' : n = i := by omega
          subst hin'
          obtain ⟨ub, ucap, hu⟩ : ∃ uo uc, u5 = .slice uo n uc := owns_form HC.out.row
          subst hu
          clear hlt hin
          go_wp2
          go_loopw [9] (fun iv wr2 => ∃ (i q : Nat), i ≤ n ∧ iv = .int .i64 i ∧ wr2 = wr.drewN q) (fun iv _ => n - (intOf iv).toNat)
          case atStart => exact ⟨0, 0, Nat.zero_le _, rfl, rfl⟩
          case round =>
            rename_i wrr
            obtain ⟨i, q, hin, rfl, rfl⟩ := hrel
            by_cases hlt : i < n
            · obtain ⟨g5, rfl⟩ : ∃ g5, ub = some ⟨g5, 0, none⟩ := by
                rcases HC.out.row.2 with ⟨hv, h0⟩ | ⟨g, cap, cur, hv, _⟩
                · omega
                · simp only [Value.slice.injEq] at hv
                  exact ⟨g, hv.1⟩
              obtain ⟨ao, cap, hL, hpos⟩ := H0.out.form i hlt
              have HLf : Hid (L i = .slice ao (len i) cap) := hL
              have HPos : Hid (0 < len i → ∃ g, ao = some ⟨g, 0, none⟩) := hpos
              have hsm := H0.out.small i hlt
              have hc : wr.cell? ⟨lb, lo + i, none⟩ = some (.slice ao (len i) cap) := by rw [← hL]; exact H0.out.cellIn HC.out.kept i hlt
              obtain ⟨gg, gcap, hG⟩ : ∃ gg gcap, G i = .slice (some ⟨gg, 0, none⟩) (len i + 40) gcap := by
                rcases (HC.out.gr i hlt).2 with ⟨hv, h0⟩ | ⟨g, cap, cur, hv, _⟩
                · omega
                · exact ⟨g, cap, hv⟩
              have hgc : wr.cell? ⟨g5, i, none⟩ = some (.slice (some ⟨gg, 0, none⟩) (len i + 40) gcap) := by
                rw [HC.out.row.cellAt i (by omega), ← hG]; simp [hlt]
              have HRd : Hid (∀ g, ao = some ⟨g, 0, none⟩ → ∀ k, k < len i → wr.cell? ⟨g, k, none⟩ = some (.int .u8 ((mkb i k : Nat) : Int))) := fun g hg k hk =>
                HC.out.read i hlt g (by rw [hL, hg]; rfl) k _ (marks_get i _ k hk)
              have HGd : Hid (∀ k, k < 40 → wr.cell? ⟨gg, len i + k, none⟩ = some (.int .u8 ((tl i k : Nat) : Int))) := fun k hk => by
                have := HC.out.gr i hlt
                rw [hG] at this
                rw [this.cellAt (len i + k) (by omega), List.getElem?_map, List.getElem?_append_right (by rw [marks_length]; omega), marks_length, Nat.add_sub_cancel_left, tails_get i 40 k hk]; rfl
              clear hL hpos hG
              generalize len i = m at *
              go_wp2
              go_loopw [10] (fun kv wr2 => ∃ (k q : Nat), k ≤ m ∧ kv = .int .i64 k ∧ wr2 = wr.drewN q) (fun kv _ => m - (intOf kv).toNat)
              case atStart => exact ⟨0, _, Nat.zero_le _, rfl, rfl⟩
              case round =>
                obtain ⟨k, q, hk, rfl, rfl⟩ := hrel
                by_cases hlk : k < m
                · obtain ⟨g, rfl⟩ := HPos.out (by omega)
                  have hx := HRd.out g rfl k hlk
                  have hval := mkb_val i k
                  go_wp2
                  go_roundw
                  case rel => exact ⟨k + 1, _, by omega, by go_num, rfl⟩
                  case measure => simp [intOf]; omega
                · go_wp2
                  go_loopw [11] (fun kv wr2 => ∃ (k q : Nat), k ≤ 40 ∧ kv = .int .i64 k ∧ wr2 = wr.drewN q) (fun kv _ => 40 - (intOf kv).toNat)
                  case atStart => exact ⟨0, _, Nat.zero_le _, rfl, rfl⟩
                  case round =>
                    obtain ⟨k, q, hk, rfl, rfl⟩ := hrel
                    by_cases hlk : k < 40
                    · have hx := HGd.out k hlk
                      have hval := tl_val i k
                      go_wp2
                      go_quiet (fail)
                      go_wp2
                      go_roundw
                      case rel => exact ⟨k + 1, _, by omega, by go_num, rfl⟩
                      case measure => simp [intOf]; omega
                    · go_wp2
                      go_roundw
                      case rel => exact ⟨i + 1, _, by omega, by go_num, rfl⟩
                      case measure => simp [intOf]; omega
            · have HK : Hid (KeptIn (OwnSet n L) w wr) := HC.out.kept
              have HO : Hid (∀ j, j < n → wr.ownsRow B 5 1 (L j) (len j) ((marks j (len j)).map bv)) := HC.out.lown
              go_wp2
              go_ret
              exact ⟨rfl, ⟨HK.out.os, HK.out.tape, HK.out.output, HK.out.size, HK.out.block⟩, fun j hj => ⟨_, owns_same (HO.out j hj) (fun g _ => rfl)⟩⟩
end Go.Proofs.Ytckfmpoddmccfaa
namespace Go.Proofs.Ytckfmpoddmccfaa
open Go.RowKit
set_option linter.unusedVariables false
set_option linter.unusedSimpArgs false
set_option maxRecDepth 100000
def cg2 (m : Nat) (z x : Bool) (a : Int) (ov : Nat) (l : List Nat) : (Nat × Nat × Nat × Nat × Nat × Nat × Nat × Nat × Nat × List Nat) × Nat × List Nat :=
  let r := cutOf 0 ov l (greD l)
  ((r.2.1, r.1, 0, 0, 0, 0, 0, 0, 0, []), ov, r.2.2)
set_option maxHeartbeats 8000000 in
theorem cutsI_2 {w : World} {B b : Nat} {v : Value} {rm ov : Nat} {l : List Nat} (h : Inb w B b v rm ov l) (bo : Option Addr) (bn bc m : Nat) (z x : Bool) (a : Int) (hm : m < 4294967296) :
    Calls Try.prog 14 #[.pointer (some ⟨b, 0, none⟩), .agg #[.int .i64 2, .slice bo bn bc, .int .u32 (m : Int), .bool z, .bool x, .int .i64 a]] w fun e w' => CgP w B b v rm (cg2 m z x a ov l) e w' := by
  have h1 : 38 ≠ 5 := by decide
  have h2 : 41 ≠ 5 := by decide
  have h3 : 88 ≠ 5 := by decide
  obtain ⟨ao, cap, hv, hcr⟩ := h.row.crow
  have HLt : Hid (∀ y ∈ l, y < 256) := hcr.row.lt
  obtain ⟨W0, hW0⟩ : ∃ W0, W0 = (w.alloc (.cells #[.int .i64 2, .slice bo bn bc, .int .u32 (m : Int), .bool z, .bool x, .int .i64 a] 38)).alloc (.cells #[.int .i64 0, .int .u64 0, .int .u64 0, .int .u64 0, .int .u64 0, .int .u64 0, .int .u64 0, .int .u64 0, .int .u64 0, Value.slice none 0 0] 41) := ⟨_, rfl⟩
  have hC0 := ((Cf.start h).alloc #[.int .i64 2, .slice bo bn bc, .int .u32 (m : Int), .bool z, .bool x, .int .i64 a] 38 h1).alloc #[.int .i64 0, .int .u64 0, .int .u64 0, .int .u64 0, .int .u64 0, .int .u64 0, .int .u64 0, .int .u64 0, .int .u64 0, Value.slice none 0 0] 41 h2
  rw [World.size_alloc, ← hW0] at hC0
  have H0 : Hid _ := hC0
  have HM : Hid _ := greetingI hC0.inb 
  clear hC0 hcr hv h
  go_enter Try.func14, Try.ntmps14
  go_wp2_with fail
  rw [← hW0]
  clear hW0
  refine Calls.mono HM.out ?_
  rintro e W1 ⟨f, cu, l', v', ao2, cap2, rfl, hcut, hI, hA, hr, hn⟩
  have HCu : Hid (cutOf 0 ov l (greD l) = (f, cu, l')) := hcut
  have hcs := cutOf_cases 0 ov l (greD l)
  rw [HCu.out] at hcs
  obtain ⟨hcs1, hcu⟩ := hcs
  have hbb := greD_b  HLt.out
  have e0 : f < 65536 := by
    rcases hcs1 with e | e
    · have := congrArg (fun y => y) e; simp only at this; omega
    · have := congrArg (fun y => y) e; simp only at this; omega
  have i0 : (f : Int) < 65536 := by omega
  have hcu' : (cu : Int) ≤ 3 := by simp only at hcu; omega
  have H2 : Hid _ := (H0.out.told2 (d' := ([] : List Nat)) hI hA hr hn).alloc #[.int .u16 (f : Int)] 88 h3
  clear HM hcut hI hA hr hn H0 hbb hcs1 hcu
  obtain ⟨r0, f0⟩ := H2.out.c (.tail _ (.head _)) 0
  obtain ⟨r1, f1⟩ := H2.out.c (.tail _ (.head _)) 1
  obtain ⟨r2, f2⟩ := H2.out.c (.tail _ (.head _)) 2
  obtain ⟨r3, f3⟩ := H2.out.c (.tail _ (.head _)) 3
  obtain ⟨r4, f4⟩ := H2.out.c (.tail _ (.head _)) 4
  obtain ⟨r5, f5⟩ := H2.out.c (.tail _ (.head _)) 5
  obtain ⟨r6, f6⟩ := H2.out.c (.tail _ (.head _)) 6
  obtain ⟨r7, f7⟩ := H2.out.c (.tail _ (.head _)) 7
  obtain ⟨r8, f8⟩ := H2.out.c (.tail _ (.head _)) 8
  obtain ⟨r9, f9⟩ := H2.out.c (.tail _ (.head _)) 9
  simp at r0 r1 r2 r3 r4 r5 r6 r7 r8 r9
  have HF : Hid _ := (Cf.put (pre := [_]) (Cf.put (pre := [_]) (Cf.put (pre := [_]) (Cf.put (pre := [_]) (Cf.put (pre := [_]) (Cf.put (pre := [_]) (Cf.put (pre := [_]) (Cf.put (pre := [_]) (Cf.put (pre := [_]) (Cf.put (pre := [_]) H2.out 0 (.int .i64 (cu : Int)) (cs' := #[.int .i64 (cu : Int), .int .u64 0, .int .u64 0, .int .u64 0, .int .u64 0, .int .u64 0, .int .u64 0, .int .u64 0, .int .u64 0, Value.slice none 0 0]) rfl) 1 (.int .u64 (f : Int)) (cs' := #[.int .i64 (cu : Int), .int .u64 (f : Int), .int .u64 0, .int .u64 0, .int .u64 0, .int .u64 0, .int .u64 0, .int .u64 0, .int .u64 0, Value.slice none 0 0]) rfl) 2 (.int .u64 0) (cs' := #[.int .i64 (cu : Int), .int .u64 (f : Int), .int .u64 0, .int .u64 0, .int .u64 0, .int .u64 0, .int .u64 0, .int .u64 0, .int .u64 0, Value.slice none 0 0]) rfl) 3 (.int .u64 0) (cs' := #[.int .i64 (cu : Int), .int .u64 (f : Int), .int .u64 0, .int .u64 0, .int .u64 0, .int .u64 0, .int .u64 0, .int .u64 0, .int .u64 0, Value.slice none 0 0]) rfl) 4 (.int .u64 0) (cs' := #[.int .i64 (cu : Int), .int .u64 (f : Int), .int .u64 0, .int .u64 0, .int .u64 0, .int .u64 0, .int .u64 0, .int .u64 0, .int .u64 0, Value.slice none 0 0]) rfl) 5 (.int .u64 0) (cs' := #[.int .i64 (cu : Int), .int .u64 (f : Int), .int .u64 0, .int .u64 0, .int .u64 0, .int .u64 0, .int .u64 0, .int .u64 0, .int .u64 0, Value.slice none 0 0]) rfl) 6 (.int .u64 0) (cs' := #[.int .i64 (cu : Int), .int .u64 (f : Int), .int .u64 0, .int .u64 0, .int .u64 0, .int .u64 0, .int .u64 0, .int .u64 0, .int .u64 0, Value.slice none 0 0]) rfl) 7 (.int .u64 0) (cs' := #[.int .i64 (cu : Int), .int .u64 (f : Int), .int .u64 0, .int .u64 0, .int .u64 0, .int .u64 0, .int .u64 0, .int .u64 0, .int .u64 0, Value.slice none 0 0]) rfl) 8 (.int .u64 0) (cs' := #[.int .i64 (cu : Int), .int .u64 (f : Int), .int .u64 0, .int .u64 0, .int .u64 0, .int .u64 0, .int .u64 0, .int .u64 0, .int .u64 0, Value.slice none 0 0]) rfl) 9 (Value.slice none 0 0) (cs' := #[.int .i64 (cu : Int), .int .u64 (f : Int), .int .u64 0, .int .u64 0, .int .u64 0, .int .u64 0, .int .u64 0, .int .u64 0, .int .u64 0, Value.slice none 0 0]) rfl)
  clear H2
  go_wp2
  exact bodyPost_ret (results_cell_one rfl _ _ (w.heap.size + 1) 41 #[.int .i64 (cu : Int), .int .u64 (f : Int), .int .u64 0, .int .u64 0, .int .u64 0, .int .u64 0, .int .u64 0, .int .u64 0, .int .u64 0, Value.slice none 0 0] (0, 0) _ rfl (HF.out.box _ (.tail _ (.head _))).1 Try.underlying41 rfl infoC) rfl ⟨cu, f, 0, 0, 0, 0, 0, 0, 0, [], ov, l', v', none, 0, rfl, by simp [cg2, HCu.out], HF.out.inb, HF.out.act, World.ownsRow_nil _ _ _ _, by simp [Value.ownBlock]⟩
end Go.Proofs.Ytckfmpoddmccfaa
namespace Go.Proofs.Ytckfmpoddmccfaa
open Go.RowKit
set_option linter.unusedVariables false
set_option linter.unusedSimpArgs false
set_option maxRecDepth 100000
def cg3 (m : Nat) (z x : Bool) (a : Int) (ov : Nat) (l : List Nat) : (Nat × Nat × Nat × Nat × Nat × Nat × Nat × Nat × Nat × List Nat) × Nat × List Nat :=
  let r := cutOf 0 ov l (flaD l)
  ((r.2.1, r.1, 0, 0, 0, 0, 0, 0, 0, []), ov, r.2.2)
set_option maxHeartbeats 8000000 in
theorem cutsI_3 {w : World} {B b : Nat} {v : Value} {rm ov : Nat} {l : List Nat} (h : Inb w B b v rm ov l) (bo : Option Addr) (bn bc m : Nat) (z x : Bool) (a : Int) (hm : m < 4294967296) :
    Calls Try.prog 14 #[.pointer (some ⟨b, 0, none⟩), .agg #[.int .i64 3, .slice bo bn bc, .int .u32 (m : Int), .bool z, .bool x, .int .i64 a]] w fun e w' => CgP w B b v rm (cg3 m z x a ov l) e w' := by
  have h1 : 38 ≠ 5 := by decide
  have h2 : 41 ≠ 5 := by decide
  obtain ⟨ao, cap, hv, hcr⟩ := h.row.crow
  have HLt : Hid (∀ y ∈ l, y < 256) := hcr.row.lt
  obtain ⟨W0, hW0⟩ : ∃ W0, W0 = (w.alloc (.cells #[.int .i64 3, .slice bo bn bc, .int .u32 (m : Int), .bool z, .bool x, .int .i64 a] 38)).alloc (.cells #[.int .i64 0, .int .u64 0, .int .u64 0, .int .u64 0, .int .u64 0, .int .u64 0, .int .u64 0, .int .u64 0, .int .u64 0, Value.slice none 0 0] 41) := ⟨_, rfl⟩
  have hC0 := ((Cf.start h).alloc #[.int .i64 3, .slice bo bn bc, .int .u32 (m : Int), .bool z, .bool x, .int .i64 a] 38 h1).alloc #[.int .i64 0, .int .u64 0, .int .u64 0, .int .u64 0, .int .u64 0, .int .u64 0, .int .u64 0, .int .u64 0, .int .u64 0, Value.slice none 0 0] 41 h2
  rw [World.size_alloc, ← hW0] at hC0
  have H0 : Hid _ := hC0
  have HM : Hid _ := flagsI hC0.inb 
  clear hC0 hcr hv h
  go_enter Try.func14, Try.ntmps14
  go_wp2_with fail
  rw [← hW0]
  clear hW0
  refine Calls.mono HM.out ?_
  rintro e W1 ⟨f, cu, l', v', rfl, hcut, hI, hA⟩
  have HCu : Hid (cutOf 0 ov l (flaD l) = (f, cu, l')) := hcut
  have hcs := cutOf_cases 0 ov l (flaD l)
  rw [HCu.out] at hcs
  obtain ⟨hcs1, hcu⟩ := hcs
  have hbb := flaD_b  HLt.out
  have e0 : f < 4294967296 := by
    rcases hcs1 with e | e
    · have := congrArg (fun y => y) e; simp only at this; omega
    · have := congrArg (fun y => y) e; simp only at this; omega
  have i0 : (f : Int) < 4294967296 := by omega
  have hcu' : (cu : Int) ≤ 3 := by simp only at hcu; omega
  have H2 : Hid _ := H0.out.acts hI hA
  clear HM hcut hI hA H0 hbb hcs1 hcu
  obtain ⟨r0, f0⟩ := H2.out.c (.head _) 0
  obtain ⟨r1, f1⟩ := H2.out.c (.head _) 1
  obtain ⟨r2, f2⟩ := H2.out.c (.head _) 2
  obtain ⟨r3, f3⟩ := H2.out.c (.head _) 3
  obtain ⟨r4, f4⟩ := H2.out.c (.head _) 4
  obtain ⟨r5, f5⟩ := H2.out.c (.head _) 5
  obtain ⟨r6, f6⟩ := H2.out.c (.head _) 6
  obtain ⟨r7, f7⟩ := H2.out.c (.head _) 7
  obtain ⟨r8, f8⟩ := H2.out.c (.head _) 8
  obtain ⟨r9, f9⟩ := H2.out.c (.head _) 9
  simp at r0 r1 r2 r3 r4 r5 r6 r7 r8 r9
  have HF : Hid _ := (Cf.put (pre := []) (Cf.put (pre := []) (Cf.put (pre := []) (Cf.put (pre := []) (Cf.put (pre := []) (Cf.put (pre := []) (Cf.put (pre := []) (Cf.put (pre := []) (Cf.put (pre := []) (Cf.put (pre := []) H2.out 0 (.int .i64 (cu : Int)) (cs' := #[.int .i64 (cu : Int), .int .u64 0, .int .u64 0, .int .u64 0, .int .u64 0, .int .u64 0, .int .u64 0, .int .u64 0, .int .u64 0, Value.slice none 0 0]) rfl) 1 (.int .u64 (f : Int)) (cs' := #[.int .i64 (cu : Int), .int .u64 (f : Int), .int .u64 0, .int .u64 0, .int .u64 0, .int .u64 0, .int .u64 0, .int .u64 0, .int .u64 0, Value.slice none 0 0]) rfl) 2 (.int .u64 0) (cs' := #[.int .i64 (cu : Int), .int .u64 (f : Int), .int .u64 0, .int .u64 0, .int .u64 0, .int .u64 0, .int .u64 0, .int .u64 0, .int .u64 0, Value.slice none 0 0]) rfl) 3 (.int .u64 0) (cs' := #[.int .i64 (cu : Int), .int .u64 (f : Int), .int .u64 0, .int .u64 0, .int .u64 0, .int .u64 0, .int .u64 0, .int .u64 0, .int .u64 0, Value.slice none 0 0]) rfl) 4 (.int .u64 0) (cs' := #[.int .i64 (cu : Int), .int .u64 (f : Int), .int .u64 0, .int .u64 0, .int .u64 0, .int .u64 0, .int .u64 0, .int .u64 0, .int .u64 0, Value.slice none 0 0]) rfl) 5 (.int .u64 0) (cs' := #[.int .i64 (cu : Int), .int .u64 (f : Int), .int .u64 0, .int .u64 0, .int .u64 0, .int .u64 0, .int .u64 0, .int .u64 0, .int .u64 0, Value.slice none 0 0]) rfl) 6 (.int .u64 0) (cs' := #[.int .i64 (cu : Int), .int .u64 (f : Int), .int .u64 0, .int .u64 0, .int .u64 0, .int .u64 0, .int .u64 0, .int .u64 0, .int .u64 0, Value.slice none 0 0]) rfl) 7 (.int .u64 0) (cs' := #[.int .i64 (cu : Int), .int .u64 (f : Int), .int .u64 0, .int .u64 0, .int .u64 0, .int .u64 0, .int .u64 0, .int .u64 0, .int .u64 0, Value.slice none 0 0]) rfl) 8 (.int .u64 0) (cs' := #[.int .i64 (cu : Int), .int .u64 (f : Int), .int .u64 0, .int .u64 0, .int .u64 0, .int .u64 0, .int .u64 0, .int .u64 0, .int .u64 0, Value.slice none 0 0]) rfl) 9 (Value.slice none 0 0) (cs' := #[.int .i64 (cu : Int), .int .u64 (f : Int), .int .u64 0, .int .u64 0, .int .u64 0, .int .u64 0, .int .u64 0, .int .u64 0, .int .u64 0, Value.slice none 0 0]) rfl)
  clear H2
  go_wp2
  exact bodyPost_ret (results_cell_one rfl _ _ (w.heap.size + 1) 41 #[.int .i64 (cu : Int), .int .u64 (f : Int), .int .u64 0, .int .u64 0, .int .u64 0, .int .u64 0, .int .u64 0, .int .u64 0, .int .u64 0, Value.slice none 0 0] (0, 0) _ rfl (HF.out.box _ (.head _)).1 Try.underlying41 rfl infoC) rfl ⟨cu, f, 0, 0, 0, 0, 0, 0, 0, [], ov, l', v', none, 0, rfl, by simp [cg3, HCu.out], HF.out.inb, HF.out.act, World.ownsRow_nil _ _ _ _, by simp [Value.ownBlock]⟩
end Go.Proofs.Ytckfmpoddmccfaa
namespace Go.Proofs.Ytckfmpoddmccfaa
open Go.RowKit
set_option linter.unusedVariables false
set_option linter.unusedSimpArgs false
set_option maxRecDepth 100000
theorem optC_b {most ov : Nat} {l : List Nat} (h : ∀ x ∈ l, x < 256) : (optC most ov l).1.1 < 4294967296 ∧ (optC most ov l).1.2.1 < 4294967296 ∧ (optC most ov l).2.1 ≤ 3 := by
  have e1 : (optC most ov l).1 = (cutOf (0, 0, false, []) ov l (optF most l)).1 := by unfold optC; simp only; split <;> rfl
  have e2 : (optC most ov l).2.1 = (cutOf (0, 0, false, []) ov l (optF most l)).2.1 := by unfold optC; simp only; split <;> rfl
  have hcs := cutOf_cases (0, 0, false, []) ov l (optF most l)
  rw [e1, e2]
  refine ⟨?_, ?_, hcs.2⟩
  · rcases hcs.1 with e | e
    · rw [e]; simp
    · rw [e]; exact optD_b h
  · rcases hcs.1 with e | e
    · rw [e]; simp
    · rw [e]; exact optD_k most l h
def cg4 (m : Nat) (z x : Bool) (a : Int) (ov : Nat) (l : List Nat) : (Nat × Nat × Nat × Nat × Nat × Nat × Nat × Nat × Nat × List Nat) × Nat × List Nat :=
  let r := optC m ov l
  ((r.2.1, r.1.1, r.1.2.1, r.1.2.2.1.toNat, 0, 0, 0, 0, 0, r.1.2.2.2), r.2.2.1, r.2.2.2)
set_option maxHeartbeats 8000000 in
theorem cutsI_4 {w : World} {B b : Nat} {v : Value} {rm ov : Nat} {l : List Nat} (h : Inb w B b v rm ov l) (bo : Option Addr) (bn bc m : Nat) (z x : Bool) (a : Int) (hm : m < 4294967296) :
    Calls Try.prog 14 #[.pointer (some ⟨b, 0, none⟩), .agg #[.int .i64 4, .slice bo bn bc, .int .u32 (m : Int), .bool z, .bool x, .int .i64 a]] w fun e w' => CgP w B b v rm (cg4 m z x a ov l) e w' := by
  have h1 : 38 ≠ 5 := by decide
  have h2 : 41 ≠ 5 := by decide
  have h3 : 57 ≠ 5 := by decide
  obtain ⟨ao, cap, hv, hcr⟩ := h.row.crow
  have HLt : Hid (∀ y ∈ l, y < 256) := hcr.row.lt
  obtain ⟨W0, hW0⟩ : ∃ W0, W0 = (w.alloc (.cells #[.int .i64 4, .slice bo bn bc, .int .u32 (m : Int), .bool z, .bool x, .int .i64 a] 38)).alloc (.cells #[.int .i64 0, .int .u64 0, .int .u64 0, .int .u64 0, .int .u64 0, .int .u64 0, .int .u64 0, .int .u64 0, .int .u64 0, Value.slice none 0 0] 41) := ⟨_, rfl⟩
  have hC0 := ((Cf.start h).alloc #[.int .i64 4, .slice bo bn bc, .int .u32 (m : Int), .bool z, .bool x, .int .i64 a] 38 h1).alloc #[.int .i64 0, .int .u64 0, .int .u64 0, .int .u64 0, .int .u64 0, .int .u64 0, .int .u64 0, .int .u64 0, .int .u64 0, Value.slice none 0 0] 41 h2
  rw [World.size_alloc, ← hW0] at hC0
  have H0 : Hid _ := hC0
  have HM : Hid _ := optionI hC0.inb m hm
  clear hC0 hcr hv h
  go_enter Try.func14, Try.ntmps14
  go_wp2_with fail
  rw [← hW0]
  clear hW0
  refine Calls.mono HM.out ?_
  rintro e W1 ⟨c, k, lg, d, cu, ov', l', v', ao2, cap2, rfl, hcut, hI, hA, hr, hn⟩
  have HCu : Hid (optC m ov l = ((c, k, lg, d), cu, ov', l')) := hcut
  have hbb := optC_b (most := m) (ov := ov) HLt.out
  rw [hcut] at hbb
  obtain ⟨e0, e1, hcu⟩ := hbb
  have hcu' : (cu : Int) ≤ 3 := by simp only at hcu; omega
  have hH1 := (H0.out.told2 (d' := d) hI hA hr hn).alloc #[.int .u32 (c : Int), .int .u32 (k : Int), .bool lg, .slice ao2 d.length cap2] 57 h3
  obtain ⟨W2, hW2⟩ : ∃ W2, W2 = W1.alloc (.cells #[.int .u32 (c : Int), .int .u32 (k : Int), .bool lg, .slice ao2 d.length cap2] 57) := ⟨_, rfl⟩
  rw [← hW2] at hH1
  have H1 : Hid _ := hH1
  have HO : Hid _ := ofOptionG W2 c k lg ao2 d.length cap2 (cu : Int) e0 e1
  clear HM hcut hI hA hr hn H0 hH1 hcu
  go_wp2_with fail
  rw [← hW2]
  clear hW2
  refine Calls.mono HO.out ?_
  rintro e W3 ⟨rfl, hb3⟩
  have H2 : Hid _ := H1.out.later hb3
  clear H1 HO hb3
  obtain ⟨r0, f0⟩ := H2.out.c (.tail _ (.head _)) 0
  obtain ⟨r1, f1⟩ := H2.out.c (.tail _ (.head _)) 1
  obtain ⟨r2, f2⟩ := H2.out.c (.tail _ (.head _)) 2
  obtain ⟨r3, f3⟩ := H2.out.c (.tail _ (.head _)) 3
  obtain ⟨r4, f4⟩ := H2.out.c (.tail _ (.head _)) 4
  obtain ⟨r5, f5⟩ := H2.out.c (.tail _ (.head _)) 5
  obtain ⟨r6, f6⟩ := H2.out.c (.tail _ (.head _)) 6
  obtain ⟨r7, f7⟩ := H2.out.c (.tail _ (.head _)) 7
  obtain ⟨r8, f8⟩ := H2.out.c (.tail _ (.head _)) 8
  obtain ⟨r9, f9⟩ := H2.out.c (.tail _ (.head _)) 9
  simp at r0 r1 r2 r3 r4 r5 r6 r7 r8 r9
  have HF : Hid _ := (Cf.put (pre := [_]) (Cf.put (pre := [_]) (Cf.put (pre := [_]) (Cf.put (pre := [_]) (Cf.put (pre := [_]) (Cf.put (pre := [_]) (Cf.put (pre := [_]) (Cf.put (pre := [_]) (Cf.put (pre := [_]) (Cf.put (pre := [_]) H2.out 0 (.int .i64 (cu : Int)) (cs' := #[.int .i64 (cu : Int), .int .u64 0, .int .u64 0, .int .u64 0, .int .u64 0, .int .u64 0, .int .u64 0, .int .u64 0, .int .u64 0, Value.slice none 0 0]) rfl) 1 (.int .u64 (c : Int)) (cs' := #[.int .i64 (cu : Int), .int .u64 (c : Int), .int .u64 0, .int .u64 0, .int .u64 0, .int .u64 0, .int .u64 0, .int .u64 0, .int .u64 0, Value.slice none 0 0]) rfl) 2 (.int .u64 (k : Int)) (cs' := #[.int .i64 (cu : Int), .int .u64 (c : Int), .int .u64 (k : Int), .int .u64 0, .int .u64 0, .int .u64 0, .int .u64 0, .int .u64 0, .int .u64 0, Value.slice none 0 0]) rfl) 3 (.int .u64 (lg.toNat : Int)) (cs' := #[.int .i64 (cu : Int), .int .u64 (c : Int), .int .u64 (k : Int), .int .u64 (lg.toNat : Int), .int .u64 0, .int .u64 0, .int .u64 0, .int .u64 0, .int .u64 0, Value.slice none 0 0]) rfl) 4 (.int .u64 ((0 : Nat) : Int)) (cs' := #[.int .i64 (cu : Int), .int .u64 (c : Int), .int .u64 (k : Int), .int .u64 (lg.toNat : Int), .int .u64 ((0 : Nat) : Int), .int .u64 0, .int .u64 0, .int .u64 0, .int .u64 0, Value.slice none 0 0]) rfl) 5 (.int .u64 ((0 : Nat) : Int)) (cs' := #[.int .i64 (cu : Int), .int .u64 (c : Int), .int .u64 (k : Int), .int .u64 (lg.toNat : Int), .int .u64 ((0 : Nat) : Int), .int .u64 ((0 : Nat) : Int), .int .u64 0, .int .u64 0, .int .u64 0, Value.slice none 0 0]) rfl) 6 (.int .u64 ((0 : Nat) : Int)) (cs' := #[.int .i64 (cu : Int), .int .u64 (c : Int), .int .u64 (k : Int), .int .u64 (lg.toNat : Int), .int .u64 ((0 : Nat) : Int), .int .u64 ((0 : Nat) : Int), .int .u64 ((0 : Nat) : Int), .int .u64 0, .int .u64 0, Value.slice none 0 0]) rfl) 7 (.int .u64 ((0 : Nat) : Int)) (cs' := #[.int .i64 (cu : Int), .int .u64 (c : Int), .int .u64 (k : Int), .int .u64 (lg.toNat : Int), .int .u64 ((0 : Nat) : Int), .int .u64 ((0 : Nat) : Int), .int .u64 ((0 : Nat) : Int), .int .u64 ((0 : Nat) : Int), .int .u64 0, Value.slice none 0 0]) rfl) 8 (.int .u64 ((0 : Nat) : Int)) (cs' := #[.int .i64 (cu : Int), .int .u64 (c : Int), .int .u64 (k : Int), .int .u64 (lg.toNat : Int), .int .u64 ((0 : Nat) : Int), .int .u64 ((0 : Nat) : Int), .int .u64 ((0 : Nat) : Int), .int .u64 ((0 : Nat) : Int), .int .u64 ((0 : Nat) : Int), Value.slice none 0 0]) rfl) 9 (.slice ao2 d.length cap2) (cs' := #[.int .i64 (cu : Int), .int .u64 (c : Int), .int .u64 (k : Int), .int .u64 (lg.toNat : Int), .int .u64 ((0 : Nat) : Int), .int .u64 ((0 : Nat) : Int), .int .u64 ((0 : Nat) : Int), .int .u64 ((0 : Nat) : Int), .int .u64 ((0 : Nat) : Int), .slice ao2 d.length cap2]) rfl)
  clear H2
  go_wp2
  exact bodyPost_ret (results_cell_one rfl _ _ (w.heap.size + 1) 41 #[.int .i64 (cu : Int), .int .u64 (c : Int), .int .u64 (k : Int), .int .u64 (lg.toNat : Int), .int .u64 ((0 : Nat) : Int), .int .u64 ((0 : Nat) : Int), .int .u64 ((0 : Nat) : Int), .int .u64 ((0 : Nat) : Int), .int .u64 ((0 : Nat) : Int), .slice ao2 d.length cap2] (0, 0) _ rfl (HF.out.box _ (.tail _ (.head _))).1 Try.underlying41 rfl infoC) rfl ⟨cu, c, k, lg.toNat, 0, 0, 0, 0, 0, d, ov', l', v', ao2, cap2, rfl, by simp [cg4, HCu.out], HF.out.inb, HF.out.act, HF.out.row, HF.out.rn⟩
end Go.Proofs.Ytckfmpoddmccfaa
namespace Go.Proofs.Ytckfmpoddmccfaa
open Go.RowKit
set_option linter.unusedVariables false
set_option linter.unusedSimpArgs false
set_option maxRecDepth 100000
def cg7 (m : Nat) (z x : Bool) (a : Int) (ov : Nat) (l : List Nat) : (Nat × Nat × Nat × Nat × Nat × Nat × Nat × Nat × Nat × List Nat) × Nat × List Nat :=
  let r := cutOf (0, 0, 0, 0, 0, []) ov l (reqD m x l)
  ((r.2.1, r.1.1, r.1.2.1, r.1.2.2.1, r.1.2.2.2.1, r.1.2.2.2.2.1, 0, 0, 0, r.1.2.2.2.2.2), ov, r.2.2)
set_option maxHeartbeats 8000000 in
theorem cutsI_7 {w : World} {B b : Nat} {v : Value} {rm ov : Nat} {l : List Nat} (h : Inb w B b v rm ov l) (bo : Option Addr) (bn bc m : Nat) (z x : Bool) (a : Int) (hm : m < 4294967296) :
    Calls Try.prog 14 #[.pointer (some ⟨b, 0, none⟩), .agg #[.int .i64 7, .slice bo bn bc, .int .u32 (m : Int), .bool z, .bool x, .int .i64 a]] w fun e w' => CgP w B b v rm (cg7 m z x a ov l) e w' := by
  have h1 : 38 ≠ 5 := by decide
  have h2 : 41 ≠ 5 := by decide
  have h3 : 60 ≠ 5 := by decide
  obtain ⟨ao, cap, hv, hcr⟩ := h.row.crow
  have HLt : Hid (∀ y ∈ l, y < 256) := hcr.row.lt
  obtain ⟨W0, hW0⟩ : ∃ W0, W0 = (w.alloc (.cells #[.int .i64 7, .slice bo bn bc, .int .u32 (m : Int), .bool z, .bool x, .int .i64 a] 38)).alloc (.cells #[.int .i64 0, .int .u64 0, .int .u64 0, .int .u64 0, .int .u64 0, .int .u64 0, .int .u64 0, .int .u64 0, .int .u64 0, Value.slice none 0 0] 41) := ⟨_, rfl⟩
  have hC0 := ((Cf.start h).alloc #[.int .i64 7, .slice bo bn bc, .int .u32 (m : Int), .bool z, .bool x, .int .i64 a] 38 h1).alloc #[.int .i64 0, .int .u64 0, .int .u64 0, .int .u64 0, .int .u64 0, .int .u64 0, .int .u64 0, .int .u64 0, .int .u64 0, Value.slice none 0 0] 41 h2
  rw [World.size_alloc, ← hW0] at hC0
  have H0 : Hid _ := hC0
  have HM : Hid _ := requestI hC0.inb m x hm
  clear hC0 hcr hv h
  go_enter Try.func14, Try.ntmps14
  go_wp2_with fail
  rw [← hW0]
  clear hW0
  refine Calls.mono HM.out ?_
  rintro e W1 ⟨f, t, c, o, k, d, cu, l', v', ao2, cap2, rfl, hcut, hI, hA, hr, hn⟩
  have HCu : Hid (cutOf (0, 0, 0, 0, 0, []) ov l (reqD m x l) = ((f, t, c, o, k, d), cu, l')) := hcut
  have hcs := cutOf_cases (0, 0, 0, 0, 0, []) ov l (reqD m x l)
  have hbb := reqD_b (most := m) (ext := x) HLt.out
  rw [HCu.out] at hcs
  obtain ⟨hcs1, hcu⟩ := hcs
  have e0 : f < 65536 := by
    rcases hcs1 with e | e
    · have := congrArg (fun y => y.1) e; simp only at this; omega
    · have := congrArg (fun y => y.1) e; simp only at this; omega
  have e1 : t < 65536 := by
    rcases hcs1 with e | e
    · have := congrArg (fun y => y.2.1) e; simp only at this; omega
    · have := congrArg (fun y => y.2.1) e; simp only at this; omega
  have hcu' : (cu : Int) ≤ 3 := by simp only at hcu; omega
  have hH1 := (H0.out.told2 (d' := d) hI hA hr hn).alloc #[.int .u16 (f : Int), .int .u16 (t : Int), .int .u64 (c : Int), .int .u64 (o : Int), .int .u64 (k : Int), .slice ao2 d.length cap2] 60 h3
  obtain ⟨W2, hW2⟩ : ∃ W2, W2 = W1.alloc (.cells #[.int .u16 (f : Int), .int .u16 (t : Int), .int .u64 (c : Int), .int .u64 (o : Int), .int .u64 (k : Int), .slice ao2 d.length cap2] 60) := ⟨_, rfl⟩
  rw [← hW2] at hH1
  have H1 : Hid _ := hH1
  have HO : Hid _ := ofRequestG W2 f t c o k ao2 d.length cap2 (cu : Int) e0 e1
  clear HM hcut hI hA hr hn H0 hH1 hbb hcs1 hcu
  go_wp2_with fail
  rw [← hW2]
  clear hW2
  refine Calls.mono HO.out ?_
  rintro e W3 ⟨rfl, hb3⟩
  have H2 : Hid _ := H1.out.later hb3
  clear H1 HO hb3
  obtain ⟨r0, f0⟩ := H2.out.c (.tail _ (.head _)) 0
  obtain ⟨r1, f1⟩ := H2.out.c (.tail _ (.head _)) 1
  obtain ⟨r2, f2⟩ := H2.out.c (.tail _ (.head _)) 2
  obtain ⟨r3, f3⟩ := H2.out.c (.tail _ (.head _)) 3
  obtain ⟨r4, f4⟩ := H2.out.c (.tail _ (.head _)) 4
  obtain ⟨r5, f5⟩ := H2.out.c (.tail _ (.head _)) 5
  obtain ⟨r6, f6⟩ := H2.out.c (.tail _ (.head _)) 6
  obtain ⟨r7, f7⟩ := H2.out.c (.tail _ (.head _)) 7
  obtain ⟨r8, f8⟩ := H2.out.c (.tail _ (.head _)) 8
  obtain ⟨r9, f9⟩ := H2.out.c (.tail _ (.head _)) 9
  simp at r0 r1 r2 r3 r4 r5 r6 r7 r8 r9
  have HF : Hid _ := (Cf.put (pre := [_]) (Cf.put (pre := [_]) (Cf.put (pre := [_]) (Cf.put (pre := [_]) (Cf.put (pre := [_]) (Cf.put (pre := [_]) (Cf.put (pre := [_]) (Cf.put (pre := [_]) (Cf.put (pre := [_]) (Cf.put (pre := [_]) H2.out 0 (.int .i64 (cu : Int)) (cs' := #[.int .i64 (cu : Int), .int .u64 0, .int .u64 0, .int .u64 0, .int .u64 0, .int .u64 0, .int .u64 0, .int .u64 0, .int .u64 0, Value.slice none 0 0]) rfl) 1 (.int .u64 (f : Int)) (cs' := #[.int .i64 (cu : Int), .int .u64 (f : Int), .int .u64 0, .int .u64 0, .int .u64 0, .int .u64 0, .int .u64 0, .int .u64 0, .int .u64 0, Value.slice none 0 0]) rfl) 2 (.int .u64 (t : Int)) (cs' := #[.int .i64 (cu : Int), .int .u64 (f : Int), .int .u64 (t : Int), .int .u64 0, .int .u64 0, .int .u64 0, .int .u64 0, .int .u64 0, .int .u64 0, Value.slice none 0 0]) rfl) 3 (.int .u64 (c : Int)) (cs' := #[.int .i64 (cu : Int), .int .u64 (f : Int), .int .u64 (t : Int), .int .u64 (c : Int), .int .u64 0, .int .u64 0, .int .u64 0, .int .u64 0, .int .u64 0, Value.slice none 0 0]) rfl) 4 (.int .u64 (o : Int)) (cs' := #[.int .i64 (cu : Int), .int .u64 (f : Int), .int .u64 (t : Int), .int .u64 (c : Int), .int .u64 (o : Int), .int .u64 0, .int .u64 0, .int .u64 0, .int .u64 0, Value.slice none 0 0]) rfl) 5 (.int .u64 (k : Int)) (cs' := #[.int .i64 (cu : Int), .int .u64 (f : Int), .int .u64 (t : Int), .int .u64 (c : Int), .int .u64 (o : Int), .int .u64 (k : Int), .int .u64 0, .int .u64 0, .int .u64 0, Value.slice none 0 0]) rfl) 6 (.int .u64 ((0 : Nat) : Int)) (cs' := #[.int .i64 (cu : Int), .int .u64 (f : Int), .int .u64 (t : Int), .int .u64 (c : Int), .int .u64 (o : Int), .int .u64 (k : Int), .int .u64 ((0 : Nat) : Int), .int .u64 0, .int .u64 0, Value.slice none 0 0]) rfl) 7 (.int .u64 ((0 : Nat) : Int)) (cs' := #[.int .i64 (cu : Int), .int .u64 (f : Int), .int .u64 (t : Int), .int .u64 (c : Int), .int .u64 (o : Int), .int .u64 (k : Int), .int .u64 ((0 : Nat) : Int), .int .u64 ((0 : Nat) : Int), .int .u64 0, Value.slice none 0 0]) rfl) 8 (.int .u64 ((0 : Nat) : Int)) (cs' := #[.int .i64 (cu : Int), .int .u64 (f : Int), .int .u64 (t : Int), .int .u64 (c : Int), .int .u64 (o : Int), .int .u64 (k : Int), .int .u64 ((0 : Nat) : Int), .int .u64 ((0 : Nat) : Int), .int .u64 ((0 : Nat) : Int), Value.slice none 0 0]) rfl) 9 (.slice ao2 d.length cap2) (cs' := #[.int .i64 (cu : Int), .int .u64 (f : Int), .int .u64 (t : Int), .int .u64 (c : Int), .int .u64 (o : Int), .int .u64 (k : Int), .int .u64 ((0 : Nat) : Int), .int .u64 ((0 : Nat) : Int), .int .u64 ((0 : Nat) : Int), .slice ao2 d.length cap2]) rfl)
  clear H2
  go_wp2
  exact bodyPost_ret (results_cell_one rfl _ _ (w.heap.size + 1) 41 #[.int .i64 (cu : Int), .int .u64 (f : Int), .int .u64 (t : Int), .int .u64 (c : Int), .int .u64 (o : Int), .int .u64 (k : Int), .int .u64 ((0 : Nat) : Int), .int .u64 ((0 : Nat) : Int), .int .u64 ((0 : Nat) : Int), .slice ao2 d.length cap2] (0, 0) _ rfl (HF.out.box _ (.tail _ (.head _))).1 Try.underlying41 rfl infoC) rfl ⟨cu, f, t, c, o, k, 0, 0, 0, d, ov, l', v', ao2, cap2, rfl, by simp [cg7, HCu.out], HF.out.inb, HF.out.act, HF.out.row, HF.out.rn⟩
end Go.Proofs.Ytckfmpoddmccfaa
namespace Go.Proofs.Ytckfmpoddmccfaa
open Go.RowKit
set_option linter.unusedVariables false
set_option linter.unusedSimpArgs false
set_option maxRecDepth 100000
def MadeP (w : World) (r : Nat) (e : Ending) (w' : World) : Prop :=
  ∃ b' B', e = .returned (.tuple #[.pointer (some ⟨w.heap.size, 0, none⟩), .pointer (some ⟨b', 0, none⟩), .bool true]) ∧ Inb w' w.heap.size w.heap.size (.slice none 0 0) r 0 [] ∧ RIn w' B' b' (.slice none 0 0) r 0 [] ∧ w.heap.size ≤ B' ∧ b' ≠ w.heap.size ∧ Below w.heap.size w w'
set_option maxHeartbeats 2000000 in
theorem madeA (r : Nat) (h1 : 1 ≤ r) (h2 : r ≤ 2097152) (w : World) : Calls Try.prog 9 #[.int .i64 (r : Int)] w fun e w' => MadeP w r e w' := by
  have H1 : Hid _ := newI r h1 h2 w
  go_enter Try.func9, Try.ntmps9
  go_wp2_with fail
  refine Calls.mono H1.out ?_
  rintro e w1 ⟨rfl, hI, hb⟩
  have H2 : Hid _ := rnewI r h1 h2 w1
  have HI : Hid _ := hI
  have HB : Hid _ := hb
  clear hI hb H1
  go_wp2_with fail
  refine Calls.mono H2.out ?_
  rintro e w2 ⟨rfl, hR, hb⟩
  have HI2 : Hid _ := HI.out.later hb
  have HR2 : Hid _ := hR
  have HB2 : Hid (Below w.heap.size w w2) := HB.out.trans (hb.mono HB.out.size)
  have hlt : w.heap.size < w1.heap.size := block_lt HI.out.blk
  clear H2 hR hb HI HB
  go_wp2
  go_ret3
  exact ⟨w1.heap.size, w1.heap.size, rfl, HI2.out, HR2.out, by omega, by omega, HB2.out⟩
set_option maxHeartbeats 2000000 in
theorem madeBad (r : Int) (h : r < 1 ∨ 2097152 < r) (w : World) : Calls Try.prog 9 #[.int .i64 r] w fun e w' => e = .returned (.tuple #[.pointer none, .pointer none, .bool true]) ∧ w' = w := by
  have H1 : Hid (Calls Try.prog 18 #[.int .i64 r] w fun e w' => e = .returned (.tuple #[.pointer none, .int .i64 90]) ∧ w' = w) := newI_bad r h w
  have H2 : Hid (Calls Try.prog 26 #[.int .i64 r] w fun e w' => e = .returned (.tuple #[.pointer none, .int .i64 90]) ∧ w' = w) := rnewI_bad r h w
  clear h
  go_enter Try.func9, Try.ntmps9
  go_wp2_with fail
  refine H1.out.mono ?_
  rintro e w1 ⟨rfl, hw⟩
  rw [hw]; clear hw
  go_wp2_with fail
  refine H2.out.mono ?_
  rintro e w1 ⟨rfl, hw⟩
  rw [hw]; clear hw
  go_wp2
  go_ret3
  exact ⟨rfl, rfl⟩
set_option maxHeartbeats 4000000 in
theorem frameMakes_bad (r : Int) (h : r < 1 ∨ 2097152 < r) (v : Value) (w : World) : Calls Try.prog 3 #[.int .i64 r, v] w fun e w' => e = .returned (.bool true) ∧ Below w.heap.size w w' := by
  have H1 : Hid (Calls Try.prog 9 #[.int .i64 r] w fun e w' => e = .returned (.tuple #[.pointer none, .pointer none, .bool true]) ∧ w' = w) := madeBad r h w
  have H2 : Hid (Calls Try.prog 10 #[] w fun e w' => e = .returned (.bool true) ∧ Below w.heap.size w w') := heads_any w
  clear h
  go_enter Try.func3, Try.ntmps3
  go_wp2_with fail
  refine H1.out.mono ?_
  rintro e w1 ⟨rfl, hw⟩
  rw [hw]; clear hw
  go_wp2_with fail
  refine H2.out.mono ?_
  rintro e w1 ⟨rfl, hb⟩
  have HB : Hid _ := hb
  clear hb H1 H2
  go_wp2
  go_ret
  exact ⟨rfl, HB.out⟩
set_option maxHeartbeats 8000000 in
theorem frameMakes_good (r : Nat) (h1 : 1 ≤ r) (h2 : r ≤ 2097152) (ao : Option Addr) (cap : Nat) (m : List Nat) (w : World) (hm : CRow w ao cap m) (hn : m.length ≤ 1099511627776) : Calls Try.prog 3 #[.int .i64 (r : Int), .slice ao m.length cap] w fun e w' => e = .returned (.bool true) ∧ Below w.heap.size w w' := by
  have H1 : Hid (Calls Try.prog 9 #[.int .i64 (r : Int)] w fun e w' => MadeP w r e w') := madeA r h1 h2 w
  have HM : Hid (CRow w ao cap m) := hm
  clear hm
  go_enter Try.func3, Try.ntmps3
  go_wp2_with fail
  refine H1.out.mono ?_
  rintro e w1 ⟨b', B', rfl, hI, hR, hB', hne, hb⟩
  have H2 : Hid (Calls Try.prog 10 #[] w1 fun e w' => e = .returned (.bool true) ∧ Below w1.heap.size w1 w') := heads_any w1
  have HI : Hid _ := hI
  have HR : Hid _ := hR
  have HB : Hid _ := hb
  clear hI hR hb H1
  go_wp2_with fail
  refine H2.out.mono ?_
  rintro e w2 ⟨rfl, hb⟩
  have hI2 := HI.out.later hb
  have hR2 := HR.out.later hb
  have HB2 : Hid (Below w.heap.size w w2) := HB.out.trans (hb.mono HB.out.size)
  have HH : Hid _ := heldI hI2
  have HRm : Hid _ := roomI hI2
  have HI2 : Hid _ := hI2
  have HR2 : Hid _ := hR2
  clear hI2 hR2 hb H2 HI HR HB
  go_wp2_with fail
  refine Calls.mono HH.out ?_
  rintro e w3 ⟨rfl, hw⟩
  rw [hw]; clear hw HH
  go_wp2_with fail
  refine Calls.mono HRm.out ?_
  rintro e w3 ⟨rfl, q, hw⟩
  have hI3 : Inb w3 w.heap.size w.heap.size (.slice none 0 0) r 0 [] := by rw [hw]; exact HI2.out.drewN q
  have hR3 : RIn w3 B' b' (.slice none 0 0) r 0 [] := by rw [hw]; exact HR2.out.drewN q
  have hB3 : Below w.heap.size w w3 := by rw [hw]; exact HB2.out.trans ⟨rfl, rfl, rfl, Nat.le_refl _, fun _ _ => rfl⟩
  have hb'B : B' ≤ b' := hR3.hb
  have hS : ∀ g, g < w.heap.size → ¬ (ifp w.heap.size (.slice none 0 0) g ∨ ifp b' (.slice none 0 0) g) := fun g hg hf => by
    rcases hf with (e | e) | (e | e)
    · omega
    · simp [Value.ownBlock] at e
    · omega
    · simp [Value.ownBlock] at e
  have HFd : Hid _ := fedA hI3 hR3 (fun g hx hy => by
    rcases hx with rfl | hx
    · rcases hy with e | e
      · omega
      · simp [Value.ownBlock] at e
    · simp [Value.ownBlock] at hx) ao cap m (fun W hW => HM.out.later (hB3.trans (hW.below hB3.size hS))) hn
  have HS : Hid _ := hS
  have HB3 : Hid _ := hB3
  clear HRm hw hI3 hR3 hB3 HI2 HR2 HB2 hS
  go_wp2_with fail
  refine Calls.mono HFd.out ?_
  rintro e w4 ⟨rfl, v1, v1', hI4, hR4, hap, hK, _, _⟩
  have HB4 : Hid (Below w.heap.size w w4) := HB3.out.trans (hK.below HB3.out.size HS.out)
  obtain ⟨L, hL⟩ : ∃ L, ([] ++ (m.drop (min m.length 0)).take (min (m.length - min m.length 0) (r - ([] : List Nat).length))) = L := ⟨_, rfl⟩
  rw [hL] at hI4 hR4
  obtain ⟨ao4, c4, rfl, _⟩ := hR4.row.crow
  have k1 := hR4.c 1
  simp at k1
  have hle := hI4.le
  have HH : Hid (∀ q, Calls Try.prog 11 #[.pointer (some ⟨w.heap.size, 0, none⟩)] (w4.drewN q) fun e w' => e = .returned (.int .i64 (L.length : Int)) ∧ w' = w4.drewN q) := fun q => heldI (hI4.drewN q)
  have HRm : Hid (∀ q, Calls Try.prog 12 #[.pointer (some ⟨w.heap.size, 0, none⟩)] (w4.drewN q) fun e w' => e = .returned (.int .i64 ((r - L.length : Nat) : Int)) ∧ ∃ q', w' = (w4.drewN q).drewN q') := fun q => roomI (hI4.drewN q)
  have hwl : IntKind.i64.wrap ((r : Int) - (L.length : Int)) = ((r - L.length : Nat) : Int) := by rw [IntKind.wrap_i64]; omega
  clear HFd hI4 hR4 hap hK hL HS HB3
  go_wp2
  go_quiet (first | (go_at_call 11; exact Calls.quiet_of_same (HH.out _)) | (go_at_call 12; exact Calls.quiet_of (HRm.out _)) | fail)
  go_wp2
  go_ret
  exact ⟨rfl, HB4.out.trans ⟨rfl, rfl, rfl, Nat.le_refl _, fun _ _ => rfl⟩⟩
end Go.Proofs.Ytckfmpoddmccfaa
namespace Go.Proofs.Ytckfmpoddmccfaa
open Go.RowKit
set_option linter.unusedVariables false
structure IRow (w : World) (po : Option Addr) (pn pc : Nat) : Prop where
  pos : 0 < pn → ∃ b off, po = some ⟨b, off, none⟩ ∧ ∀ i, i < pn → ∃ z : Int, w.cell? ⟨b, off + i, none⟩ = some (.int .i64 z)
  len : pn ≤ 1099511627776
theorem IRow.later {w w' : World} {po : Option Addr} {pn pc : Nat} (h : IRow w po pn pc) (hb : Below w.heap.size w w') : IRow w' po pn pc :=
  ⟨fun hp => by
    obtain ⟨b, off, e, hc⟩ := h.pos hp
    exact ⟨b, off, e, fun i hi => by obtain ⟨z, hz⟩ := hc i hi; exact ⟨z, cell_later hb hz⟩⟩, h.len⟩
theorem tmod_cast (k pn : Nat) : (k : Int).tmod (pn : Int) = ((k % pn : Nat) : Int) := by
  rw [Int.tmod_eq_emod_of_nonneg (by omega)]; simp
theorem wrap_small (r : Nat) (h : r < 40) : wrap64 (r : Int) = (r : Int) ∧ IntKind.i64.wrap (r : Int) = (r : Int) ∧ IntKind.i64.wrap (1 + (r : Int)) = ((1 + r : Nat) : Int) := by
  refine ⟨?_, ?_, ?_⟩
  · unfold wrap64; omega
  · rw [IntKind.wrap_i64]; omega
  · rw [IntKind.wrap_i64]; omega
theorem wrapT {a m T : Nat} (h : a + m = T) (hT : T ≤ 2000000) : IntKind.i64.wrap ((a : Int) + (m : Int)) = (T : Int) := by
  rw [IntKind.wrap_i64]; omega
end Go.Proofs.Ytckfmpoddmccfaa
