import Derived.Test.YtjikibhhhchgeaaDoorJI
namespace Go.Proofs.YtjikibhhhchgeaaDoor
open Go.RowKit
set_option linter.unusedVariables false
set_option maxRecDepth 100000

def capOf : Value → Nat
  | .slice _ _ c => c
  | _ => 0
theorem own_prefix {w w0 : World} {B n m : Nat} {v u : Value} {xs ys zs : List Value} (hv : w.ownsRow B 5 1 v m (xs ++ ys)) (hx : xs.length = n) (hu : w0.ownsRow B 5 1 u n zs) (hb : v.ownBlock = u.ownBlock) (hc : capOf v = capOf u) : w.ownsRow B 5 1 u n xs := by
  rcases hu.2 with ⟨hue, hn⟩ | ⟨g, cap, cur, hue, hg, hcur, hnc, hcm, hsz, htk⟩
  · subst hue; subst hn
    have : xs = [] := List.eq_nil_of_length_eq_zero hx
    subst this
    exact World.ownsRow_nil _ _ _ _
  · subst hue
    rcases hv.2 with ⟨hve, _⟩ | ⟨g', cap', cur', hve, hg', hcur', hnc', hcm', hsz', htk'⟩
    · subst hve; simp [Value.ownBlock] at hb
    · subst hve
      have e1 : g' = g := by simpa [Value.ownBlock] using hb
      have e2 : cap' = cap := hc
      subst e1; subst e2
      refine ⟨by rw [hx]; simp, .inr ⟨g', cap', cur', rfl, hg', hcur', hnc, hcm, hsz', ?_⟩⟩
      have hl := hv.1
      simp at hl
      have := congrArg (List.take n) htk'
      rw [List.take_take] at this
      rw [Nat.mul_one]
      have e3 : min n (m * 1) = n := by omega
      rw [e3] at this
      rw [this, List.take_left' hx]

/-- what an append to a row of one's own comes to, with what becomes of the old block -/
theorem run_append_three {P : Program} (w : World) (t ty : TypeId) (base : Nat) (e : TypeId) (i : TypeInfo) (z : Value) (bytes : Nat) (ht : P.underlying t = some (.slice e)) (hi : P.info? e = some i) (hz : i.zero = some z)
    (hsize : i.size = 1) (hby : i.bytes = bytes) (hzs : z.cells.size = 1) (v : Value) (n : Nat) (xs : List Value) (hown : w.ownsRow base e 1 v n xs)
    (ad : Addr) (m c : Nat) (news : List Value) (hl : news.length = m) (hnews : ∀ j u, news[j]? = some u → w.cell? (ad.add j) = some u) (h1 : ∀ u ∈ news, u.oneCell' = true)
    (h63 : n + m ≤ maxLen) (hbytes : (n + m) * bytes ≤ 140737488355328) (hbase : base ≤ w.heap.size) :
    ∃ v' w', (Builtin.append_ #[t, t] ty #[v, .slice (some ad) m c]).run P w = .ok v' w' ∧ w'.ownsRow base e 1 v' (n + m) (xs ++ news) ∧
      ((v'.ownBlock = v.ownBlock ∧ capOf v' = capOf v ∧ w.grownBy w' v.ownBlock) ∨ ((∀ g, v'.ownBlock = some g → w.heap.size ≤ g) ∧ w.grownBy w' none)) := by
  have hl' : news.length = m * 1 := by omega
  rcases hown.2 with ⟨hv, hn⟩ | ⟨g, cap, cur, hv, hg, hcur, hnc, hcm, hsz, htk⟩
  · subst hv; subst hn
    have hxs : xs = [] := List.eq_nil_of_length_eq_zero (by simpa using hown.1)
    subst hxs
    obtain ⟨v', w', hrun, r1, r2, _⟩ := run_append_own (P := P) w w.heap.size t ty e i z 1 bytes ht hi hz hsize hby hzs (by decide) (.slice none 0 0) 0 [] (World.ownsRow_nil w _ e 1) ad m c news hl' hnews h1 h63 hbytes (Nat.le_refl _)
    refine ⟨v', w', hrun, owns_mono r1 hbase, .inr ⟨fun g hg => ?_, r2⟩⟩
    exact (owns_lt r1 g hg).2
  · subst hv
    by_cases hroom : n + m ≤ cap
    · obtain ⟨w', hrun, r1, r2⟩ := run_append_fits (P := P) w base t ty e i 1 ht hi hsize g n cap xs hown ad m c news hl' hnews h1 hroom
      exact ⟨_, w', hrun, r1, .inl ⟨rfl, rfl, r2⟩⟩
    · obtain ⟨v', w', hrun, r1, r2⟩ := run_append_arg_grows (P := P) w t ty e i z 1 bytes ht hi hz hsize hby hzs (by decide) ⟨g, 0, none⟩ n cap xs (by simpa using hown.1) (by
        intro j u hu
        have hj : j < n * 1 := by
          have := (List.getElem?_eq_some_iff.1 hu).1
          rw [hown.1] at this; exact this
        rw [WideShapes.add_plain, Nat.zero_add, hown.cellAt j hj]; exact hu) ad m c news hl' hnews (by omega) h63 hbytes
      exact ⟨v', w', hrun, owns_mono r1 hbase, .inr ⟨fun g' hg' => (owns_lt r1 g' hg').2, r2⟩⟩

theorem step_append_three {P : Program} {ops : Array Oper} {o : Oper} {a : Act} {w : World} {K : Act → World → Prop} {Q : Exit → Act → World → Prop} {E : Prop}
    (hg : o.guard = none) (s x : Operand) (t : TypeId) (hop : o.op = Op.call { callee := Callee.builtin Builtin.append, args := #[s, x], argTypes := #[t, t] })
    (base : Nat) (e : TypeId) (i : TypeInfo) (z : Value) (bytes : Nat) (ht : P.underlying t = some (.slice e)) (hi : P.info? e = some i) (hz : i.zero = some z)
    (hsize : i.size = 1) (hby : i.bytes = bytes) (hzs : z.cells.size = 1) (v : Value) (n : Nat) (xs : List Value) (hs : a.eval s = v) (hown : w.ownsRow base e 1 v n xs)
    (ad : Addr) (m c : Nat) (news : List Value) (hx : a.eval x = .slice (some ad) m c) (hl : news.length = m) (hnews : ∀ j u, news[j]? = some u → w.cell? (ad.add j) = some u) (h1 : ∀ u ∈ news, u.oneCell' = true)
    (h63 : n + m ≤ maxLen) (hbytes : (n + m) * bytes ≤ 140737488355328) (hbase : base ≤ w.heap.size)
    (hK : ∀ ao cap w', w'.ownsRow base e 1 (.slice ao (n + m) cap) (n + m) (xs ++ news) → (((Value.slice ao (n + m) cap).ownBlock = v.ownBlock ∧ capOf (Value.slice ao (n + m) cap) = capOf v ∧ w.grownBy w' v.ownBlock) ∨ ((∀ g, (Value.slice ao (n + m) cap).ownBlock = some g → w.heap.size ≤ g) ∧ w.grownBy w' none)) → K (a.put o.dst (.slice ao (n + m) cap)) w') :
    if Region.wanted o (yielded ops a.tmps) = true then Oper.wp P o a w K Q else E := by
  have hw : Region.wanted o (yielded ops a.tmps) = true := by simp [Region.wanted, hg]
  rw [if_pos hw]
  obtain ⟨v', w', hrun, r1, r2⟩ := run_append_three (P := P) w t o.type base e i z bytes ht hi hz hsize hby hzs v n xs hown ad m c news hl hnews h1 h63 hbytes hbase
  obtain ⟨ao, cap, rfl⟩ := owns_form r1
  unfold Oper.wp
  simp [execOp, hop, resolve, invoke, builtin, hs, hx, hrun, Result.andThen]
  exact hK ao cap w' r1 r2
theorem wpList_append_three {P : Program} (w : World) {ops : Array Oper} {rest : List Oper} {o : Oper} {a : Act} {Q : Exit → Act → World → Prop} (hgd : o.guard = none) (s x : Operand) (t : TypeId)
    (ho : o.op = .call { callee := .builtin .append, args := #[s, x], argTypes := #[t, t] })
    (base : Nat) (e : TypeId) (i : TypeInfo) (z : Value) (bytes : Nat) (ht : P.underlying t = some (.slice e)) (hi : P.info? e = some i) (hz : i.zero = some z)
    (hsize : i.size = 1) (hby : i.bytes = bytes) (hzs : z.cells.size = 1)
    (v : Value) (n : Nat) (xs : List Value) (hs : a.eval s = v) (hown : w.ownsRow base e 1 v n xs)
    (ad : Addr) (m c : Nat) (news : List Value) (hx : a.eval x = .slice (some ad) m c) (hl : news.length = m)
    (hnews : ∀ j u, news[j]? = some u → w.cell? (ad.add j) = some u) (h1 : ∀ u ∈ news, u.oneCell' = true)
    (h63 : n + m ≤ maxLen) (hbytes : (n + m) * bytes ≤ 140737488355328) (hbase : base ≤ w.heap.size)
    (h : ∀ ao cap w', w'.ownsRow base e 1 (.slice ao (n + m) cap) (n + m) (xs ++ news) → (((Value.slice ao (n + m) cap).ownBlock = v.ownBlock ∧ capOf (Value.slice ao (n + m) cap) = capOf v ∧ w.grownBy w' v.ownBlock) ∨ ((∀ g, (Value.slice ao (n + m) cap).ownBlock = some g → w.heap.size ≤ g) ∧ w.grownBy w' none)) → wpList P ops Q rest (a.put o.dst (.slice ao (n + m) cap)) w') : wpList P ops Q (o :: rest) a w := by
  obtain ⟨v', w', hrun, r1, r2⟩ := run_append_three (P := P) w t o.type base e i z bytes ht hi hz hsize hby hzs v n xs hown ad m c news hl hnews h1 h63 hbytes hbase
  obtain ⟨ao, cap, rfl⟩ := owns_form r1
  refine wpList_plain hgd fun K hK => ?_
  unfold Oper.wp execOp
  simp only [ho, resolve, invoke, builtin, Sem.run_bind, Sem.run_pure, Result.andThen_ok, List.map_toArray, List.map_cons, List.map_nil, hs, hx, hrun]
  exact hK _ _ (h ao cap w' r1 r2)

def mkb (i k : Nat) : Nat := (i + 1) % 256
def marks (i n : Nat) : List Nat := (List.range n).map (mkb i)
theorem marks_length (i n : Nat) : (marks i n).length = n := by simp [marks]
theorem marks_succ (i n : Nat) : marks i (n + 1) = marks i n ++ [mkb i n] := by simp [marks, List.range_succ]
theorem marks_get (i n k : Nat) (h : k < n) : (marks i n)[k]? = some (mkb i k) := by simp [marks, h]
def tails (n : Nat) : List Nat := List.replicate n 99
theorem tails_succ (n : Nat) : tails (n + 1) = tails n ++ [99] := by simp [tails, List.replicate_succ']
def Sep (a b : Value) : Prop := ∀ g, a.ownBlock = some g → b.ownBlock ≠ some g
theorem Sep.symm {a b : Value} (h : Sep a b) : Sep b a := fun g hb ha => h g ha hb
def OwnSet (n : Nat) (L : Nat → Value) (g : Nat) : Prop := ∃ i, i < n ∧ (L i).ownBlock = some g

/-- lists that were handed out -/
structure Lists (w : World) (B lb lo n : Nat) (L : Nat → Value) (len : Nat → Nat) : Prop where
  cell : ∀ i, i < n → w.cell? ⟨lb, lo + i, none⟩ = some (L i)
  own : ∀ i, i < n → ∃ C : List Nat, w.ownsRow B 5 1 (L i) (len i) (C.map bv)
  sep : ∀ i j, i < n → j < n → i ≠ j → Sep (L i) (L j)
  off : ∀ i, i < n → (L i).ownBlock ≠ some lb
  small : ∀ i, i < n → len i ≤ 4398046511104
  base : B ≤ w.heap.size
theorem Lists.lt {w : World} {B lb lo n : Nat} {L : Nat → Value} {len : Nat → Nat} (h : Lists w B lb lo n L len) (g : Nat) (hg : OwnSet n L g) : g < w.heap.size := by
  obtain ⟨i, hi, e⟩ := hg
  obtain ⟨C, ho⟩ := h.own i hi
  exact (owns_lt ho g e).1
theorem Lists.form {w : World} {B lb lo n : Nat} {L : Nat → Value} {len : Nat → Nat} (h : Lists w B lb lo n L len) (i : Nat) (hi : i < n) : ∃ ao cap, L i = .slice ao (len i) cap ∧ (0 < len i → ∃ g, ao = some ⟨g, 0, none⟩) := by
  obtain ⟨C, ho⟩ := h.own i hi
  rcases ho.2 with ⟨hv, hn⟩ | ⟨g, cap, cur, hv, _⟩
  · exact ⟨none, 0, by rw [hv, hn], fun h => by omega⟩
  · exact ⟨_, _, hv, fun _ => ⟨g, rfl⟩⟩
theorem Lists.cellIn {w wr : World} {B lb lo n : Nat} {L : Nat → Value} {len : Nat → Nat} (h : Lists w B lb lo n L len) (k : KeptIn (OwnSet n L) w wr) (i : Nat) (hi : i < n) : wr.cell? ⟨lb, lo + i, none⟩ = some (L i) := by
  have hc := h.cell i hi
  have hlt := World.block_lt_of_cell? _ _ hc
  have hb := k.block lb hlt (fun ⟨j, hj, e⟩ => h.off j hj e)
  exact (World.cell?_of_block (w := w) (a := ⟨lb, lo + i, none⟩) hb).trans hc

/-- the first part: marks are laid -/
structure AInv (w wr : World) (B n : Nat) (L : Nat → Value) (len : Nat → Nat) (i k : Nat) : Prop where
  done : ∀ j, j < i → j < n → wr.ownsRow B 5 1 (L j) (len j) ((marks j (len j)).map bv)
  cur : i < n → ∃ C : List Nat, wr.ownsRow B 5 1 (L i) (len i) ((marks i k ++ C).map bv)
  rest : ∀ j, i < j → j < n → ∃ C : List Nat, wr.ownsRow B 5 1 (L j) (len j) (C.map bv)
  kept : KeptIn (OwnSet n L) w wr
theorem AInv.start {w : World} {B lb lo n : Nat} {L : Nat → Value} {len : Nat → Nat} (h : Lists w B lb lo n L len) : AInv w w B n L len 0 0 :=
  ⟨fun j hj => by omega, fun hn => h.own 0 hn, fun j _ hj => h.own j hj, KeptIn.refl _ _⟩
theorem AInv.next {w wr : World} {B n : Nat} {L : Nat → Value} {len : Nat → Nat} {i : Nat} (h : AInv w wr B n L len i (len i)) (hi : i < n) : AInv w wr B n L len (i + 1) 0 := by
  refine ⟨fun j hj hn => ?_, fun hn => h.rest (i + 1) (by omega) hn, fun j hj hn => h.rest j (by omega) hn, h.kept⟩
  by_cases e : j = i
  · subst e
    obtain ⟨C, ho⟩ := h.cur hn
    have hl := ho.1
    simp [marks_length] at hl
    subst hl
    simpa using ho
  · exact h.done j (by omega) hn
theorem AInv.store {w wr : World} {B lb lo n : Nat} {L : Nat → Value} {len : Nat → Nat} {i k g cap : Nat} (h0 : Lists w B lb lo n L len) (h : AInv w wr B n L len i k) (hi : i < n) (hk : k < len i) (hL : L i = .slice (some ⟨g, 0, none⟩) (len i) cap) :
    (∃ x, wr.cell? ⟨g, k, none⟩ = some x) ∧ wr.frozen? ⟨g, k, none⟩ = false ∧ AInv w (wr.setCell ⟨g, k, none⟩ (bv (mkb i k))) B n L len i (k + 1) := by
  obtain ⟨C, ho⟩ := h.cur hi
  have hl := ho.1
  simp [marks_length] at hl
  obtain ⟨c, C', rfl⟩ : ∃ c C', C = c :: C' := by
    cases C with
    | nil => simp at hl; omega
    | cons c C' => exact ⟨c, C', rfl⟩
  have hgi : (L i).ownBlock = some g := by rw [hL]; rfl
  rw [hL] at ho
  obtain ⟨hs, hgr⟩ := ho.stored k (bv (mkb i k))
  have hother : ∀ j, j < n → j ≠ i → ∀ g', (L j).ownBlock = some g' → (wr.setCell ⟨g, k, none⟩ (bv (mkb i k))).heap[g']? = wr.heap[g']? := fun j hj hne g' hg' =>
    Below.heap_setCell _ _ _ _ (fun e => h0.sep j i hj hi hne g' hg' (by rw [hgi]; exact congrArg some (show g = g' from e.symm)))
  refine ⟨⟨_, (ho.cellAt k (by omega)).trans (List.getElem?_eq_getElem (by simp [marks_length]))⟩, ho.frozenAt k, ⟨fun j hj hn => owns_same (h.done j hj hn) (hother j hn (by omega)), fun _ => ⟨C', ?_⟩, fun j hj hn => ?_, ?_⟩⟩
  · rw [hL]
    have e : ((marks i k ++ c :: C').map bv).set k (bv (mkb i k)) = (marks i (k + 1) ++ C').map bv := by
      rw [marks_succ, List.append_assoc, List.map_append, List.map_append, List.set_append]
      simp [marks_length]
    rw [e] at hs; exact hs
  · obtain ⟨D, hD⟩ := h.rest j hj hn
    exact ⟨D, owns_same hD (hother j hn (by omega))⟩
  · refine h.kept.trans (T := fun x => x = g) ⟨hgr.os, hgr.tape, hgr.output, hgr.size, fun b hb hS => hgr.block b hb (fun e => hS (Option.some.inj e))⟩ (fun b _ hS e => ?_)
    subst e; exact hS ⟨i, hi, hgi⟩

/-- the second part: each is grown -/
structure CInv (w wr : World) (B n : Nat) (L : Nat → Value) (len : Nat → Nat) : Prop where
  kept : KeptIn (OwnSet n L) w wr
  lown : ∀ j, j < n → wr.ownsRow B 5 1 (L j) (len j) ((marks j (len j)).map bv)
structure DInv (w wr : World) (B n : Nat) (L : Nat → Value) (len : Nat → Nat) (i : Nat) (v : Value) (k : Nat) : Prop where
  kept : KeptIn (OwnSet n L) w wr
  cur : wr.ownsRow B 5 1 v (len i + k) ((marks i (len i) ++ tails k).map bv)
  vsep : ∀ j, j < n → j ≠ i → Sep v (L j)
  vblk : (v.ownBlock = (L i).ownBlock ∧ capOf v = capOf (L i)) ∨ Sep v (L i)
  vset : ∀ g, v.ownBlock = some g → OwnSet n L g ∨ w.heap.size ≤ g
  lown : ∀ j, j < n → wr.ownsRow B 5 1 (L j) (len j) ((marks j (len j)).map bv)
theorem CInv.start {w wr : World} {B n : Nat} {L : Nat → Value} {len : Nat → Nat} {k : Nat} (h : AInv w wr B n L len n k) : CInv w wr B n L len :=
  ⟨h.kept, fun j hj => h.done j hj hj⟩
theorem CInv.begin {w wr : World} {B lb lo n i : Nat} {L : Nat → Value} {len : Nat → Nat} (h0 : Lists w B lb lo n L len) (h : CInv w wr B n L len) (hi : i < n) : DInv w wr B n L len i (L i) 0 :=
  ⟨h.kept, by simpa [tails] using h.lown i hi, fun j hj hne => h0.sep i j hi hj (by omega), .inl ⟨rfl, rfl⟩, fun g hg => .inl ⟨i, hi, hg⟩, h.lown⟩
theorem DInv.finish {w wr : World} {B n i k : Nat} {L : Nat → Value} {len : Nat → Nat} {v : Value} (h : DInv w wr B n L len i v k) : CInv w wr B n L len := ⟨h.kept, h.lown⟩
theorem CInv.later {w wr w' : World} {B lb lo n : Nat} {L : Nat → Value} {len : Nat → Nat} (h0 : Lists w B lb lo n L len) (h : CInv w wr B n L len) (hb : Below wr.heap.size wr w') : CInv w w' B n L len :=
  ⟨h.kept.trans (T := fun _ => False) ⟨hb.os, hb.tape, hb.output, hb.size, fun b hb' _ => hb.block b hb'⟩ (fun _ _ _ e => e), fun j hj => owns_same (h.lown j hj) fun g hg => hb.block g (owns_lt (h.lown j hj) g hg).1⟩

theorem DInv.grow {w wr W0 w1 : World} {B lb lo n i k : Nat} {L : Nat → Value} {len : Nat → Nat} {v v' : Value} (h0 : Lists w B lb lo n L len) (hi : i < n) (h : DInv w wr B n L len i v k) (hb : Below wr.heap.size wr W0)
    (ho : w1.ownsRow B 5 1 v' (len i + k + 1) ((marks i (len i) ++ tails k).map bv ++ [bv 99]))
    (hf : (v'.ownBlock = v.ownBlock ∧ capOf v' = capOf v ∧ W0.grownBy w1 v.ownBlock) ∨ ((∀ g, v'.ownBlock = some g → W0.heap.size ≤ g) ∧ W0.grownBy w1 none)) : DInv w w1 B n L len i v' (k + 1) := by
  have ho' : w1.ownsRow B 5 1 v' (len i + (k + 1)) ((marks i (len i) ++ tails (k + 1)).map bv) := by
    rw [tails_succ, ← List.append_assoc, List.map_append]; exact ho
  have hg : W0.grownBy w1 v.ownBlock := by
    rcases hf with ⟨_, _, hg⟩ | ⟨_, hg⟩
    · exact hg
    · exact ⟨hg.os, hg.tape, hg.output, hg.size, fun b hb' _ => hg.block b hb' (by simp)⟩
  have hblk : ∀ b, b < wr.heap.size → v.ownBlock ≠ some b → w1.heap[b]? = wr.heap[b]? := fun b hb' hne => by
    rw [hg.block b (Nat.lt_of_lt_of_le hb' hb.size) (fun e => hne e.symm)]; exact hb.block b hb'
  have hsz : wr.heap.size ≤ w1.heap.size := Nat.le_trans hb.size hg.size
  have hLt : ∀ j, j < n → ∀ g, (L j).ownBlock = some g → g < wr.heap.size := fun j hj g hg' => Nat.lt_of_lt_of_le (h0.lt g ⟨j, hj, hg'⟩) h.kept.size
  have hsep : ∀ x : Value, (∀ g, x.ownBlock = some g → g < wr.heap.size) → Sep v x → Sep v' x := fun x hx hs g hg' e => by
    rcases hf with ⟨hf1, _⟩ | ⟨hf1, _⟩
    · exact hs g (hf1 ▸ hg') e
    · have h1 := hf1 g hg'
      have h2 := hx g e
      have h3 := hb.size
      omega
  refine ⟨?_, ho', fun j hj hne => hsep _ (hLt j hj) (h.vsep j hj hne), ?_, fun g hg' => ?_, fun j hn => ?_⟩
  · refine ⟨hg.os.trans (hb.os.trans h.kept.os), hg.tape.trans (hb.tape.trans h.kept.tape), hg.output.trans (hb.output.trans h.kept.output), Nat.le_trans h.kept.size hsz, fun b hb' hS => ?_⟩
    rw [hblk b (Nat.lt_of_lt_of_le hb' h.kept.size) (fun e => ?_)]
    · exact h.kept.block b hb' hS
    · rcases h.vset b e with h1 | h1
      · exact hS h1
      · omega
  · rcases h.vblk with ⟨hv, hvc⟩ | hv
    · rcases hf with ⟨hf1, hf2, _⟩ | ⟨hf1, _⟩
      · exact .inl ⟨hf1.trans hv, hf2.trans hvc⟩
      · refine .inr fun g hg' e => ?_
        have h1 := hf1 g hg'
        have h2 := hLt i hi g e
        have h3 := hb.size
        omega
    · exact .inr (hsep _ (hLt i hi) hv)
  · rcases hf with ⟨hf1, _⟩ | ⟨hf1, _⟩
    · exact h.vset g (hf1 ▸ hg')
    · right
      have h1 := hf1 g hg'
      have h2 := h.kept.size
      have h3 := hb.size
      omega
  · by_cases e : j = i
    · subst e
      rcases h.vblk with ⟨hv, hvc⟩ | hv
      · rcases hf with ⟨hf1, hf2, _⟩ | ⟨hf1, hg2⟩
        · exact own_prefix (by rw [List.map_append] at ho'; exact ho') (by simp [marks_length]) (h.lown j hn) (hf1.trans hv) (hf2.trans hvc)
        · refine owns_same (h.lown j hn) fun g hg' => ?_
          rw [hg2.block g (Nat.lt_of_lt_of_le (hLt j hn g hg') hb.size) (by simp)]
          exact hb.block g (hLt j hn g hg')
      · exact owns_same (h.lown j hn) fun g hg' => hblk g (hLt j hn g hg') (fun e => hv g e hg')
    · exact owns_same (h.lown j hn) fun g hg' => hblk g (hLt j hn g hg') (fun e' => h.vsep j hn e g e' hg')
theorem CInv.read {w wr : World} {B n : Nat} {L : Nat → Value} {len : Nat → Nat} (h : CInv w wr B n L len) {i g k cap : Nat} (hi : i < n) (hL : L i = .slice (some ⟨g, 0, none⟩) (len i) cap) (hk : k < len i) : wr.cell? ⟨g, k, none⟩ = some (.int .u8 (((i + 1) % 256 : Nat) : Int)) := by
  have ho := h.lown i hi
  rw [hL] at ho
  rw [ho.cellAt k (by omega), List.getElem?_map, marks_get i _ k hk]
  rfl
theorem mkb_val (i : Nat) : IntKind.u8.wrap ((i : Int) + 1) = (((i + 1) % 256 : Nat) : Int) := by
  rw [IntKind.wrap_u8]; omega
end Go.Proofs.YtjikibhhhchgeaaDoor
