import Derived.Test.YtpkobgnbjmefnabDoorWriterX
namespace Go.Proofs.YtpkobgnbjmefnabDoor
open Go.RowKit
set_option linter.unusedVariables false
set_option maxRecDepth 100000

/-- what an append to a row of one's own comes to, with what becomes of the old block -/
theorem run_append_three {P : Program} (w : World) (t ty : TypeId) (base : Nat) (e : TypeId) (i : TypeInfo) (z : Value) (bytes : Nat) (ht : P.underlying t = some (.slice e)) (hi : P.info? e = some i) (hz : i.zero = some z)
    (hsize : i.size = 1) (hby : i.bytes = bytes) (hzs : z.cells.size = 1) (v : Value) (n : Nat) (xs : List Value) (hown : w.ownsRow base e 1 v n xs)
    (ad : Addr) (m c : Nat) (news : List Value) (hl : news.length = m) (hnews : ∀ j u, news[j]? = some u → w.cell? (ad.add j) = some u) (h1 : ∀ u ∈ news, u.oneCell' = true)
    (h63 : n + m ≤ maxLen) (hbytes : (n + m) * bytes ≤ 140737488355328) (hbase : base ≤ w.heap.size) :
    ∃ v' w', (Builtin.append_ #[t, t] ty #[v, .slice (some ad) m c]).run P w = .ok v' w' ∧ w'.ownsRow base e 1 v' (n + m) (xs ++ news) ∧
      ((v'.ownBlock = v.ownBlock ∧ w.grownBy w' v.ownBlock) ∨ ((∀ g, v'.ownBlock = some g → w.heap.size ≤ g) ∧ w.grownBy w' none)) := by
  have hl' : news.length = m * 1 := by omega
  rcases hown.2 with ⟨hv, hn⟩ | ⟨g, cap, cur, hv, hg, hcur, hnc, hcm, hsz, htk⟩
  · subst hv; subst hn
    have hxs : xs = [] := List.eq_nil_of_length_eq_zero (by simpa using hown.1)
    subst hxs
    obtain ⟨v', w', hrun, r1, r2, _⟩ := run_append_own (P := P) w w.heap.size t ty e i z 1 bytes ht hi hz hsize hby hzs (by decide) (.slice none 0 0) 0 [] (World.ownsRow_nil w _ e 1) ad m c news hl' hnews h1 h63 hbytes (Nat.le_refl _)
    refine ⟨v', w', hrun, owns_mono r1 hbase, .inr ⟨fun g hg => ?_, r2⟩⟩
    exact (owns_lt r1 g hg).2
  · subst hv
    by_cases hroom : n + m ≤ cap
    · obtain ⟨w', hrun, r1, r2⟩ := run_append_fits (P := P) w base t ty e i 1 ht hi hsize g n cap xs hown ad m c news hl' hnews h1 hroom
      exact ⟨_, w', hrun, r1, .inl ⟨rfl, r2⟩⟩
    · obtain ⟨v', w', hrun, r1, r2⟩ := run_append_arg_grows (P := P) w t ty e i z 1 bytes ht hi hz hsize hby hzs (by decide) ⟨g, 0, none⟩ n cap xs (by simpa using hown.1) (by
        intro j u hu
        have hj : j < n * 1 := by
          have := (List.getElem?_eq_some_iff.1 hu).1
          rw [hown.1] at this; exact this
        rw [WideShapes.add_plain, Nat.zero_add, hown.cellAt j hj]; exact hu) ad m c news hl' hnews (by omega) h63 hbytes
      exact ⟨v', w', hrun, owns_mono r1 hbase, .inr ⟨fun g' hg' => (owns_lt r1 g' hg').2, r2⟩⟩

theorem step_append_three {P : Program} {ops : Array Oper} {o : Oper} {a : Act} {w : World} {K : Act → World → Prop} {Q : Exit → Act → World → Prop} {E : Prop}
    (hg : o.guard = none) (s x : Operand) (t : TypeId) (hop : o.op = Op.call { callee := Callee.builtin Builtin.append, args := #[s, x], argTypes := #[t, t] })
    (base : Nat) (e : TypeId) (i : TypeInfo) (z : Value) (bytes : Nat) (ht : P.underlying t = some (.slice e)) (hi : P.info? e = some i) (hz : i.zero = some z)
    (hsize : i.size = 1) (hby : i.bytes = bytes) (hzs : z.cells.size = 1) (v : Value) (n : Nat) (xs : List Value) (hs : a.eval s = v) (hown : w.ownsRow base e 1 v n xs)
    (ad : Addr) (m c : Nat) (news : List Value) (hx : a.eval x = .slice (some ad) m c) (hl : news.length = m) (hnews : ∀ j u, news[j]? = some u → w.cell? (ad.add j) = some u) (h1 : ∀ u ∈ news, u.oneCell' = true)
    (h63 : n + m ≤ maxLen) (hbytes : (n + m) * bytes ≤ 140737488355328) (hbase : base ≤ w.heap.size)
    (hK : ∀ ao cap w', w'.ownsRow base e 1 (.slice ao (n + m) cap) (n + m) (xs ++ news) → (((Value.slice ao (n + m) cap).ownBlock = v.ownBlock ∧ w.grownBy w' v.ownBlock) ∨ ((∀ g, (Value.slice ao (n + m) cap).ownBlock = some g → w.heap.size ≤ g) ∧ w.grownBy w' none)) → K (a.put o.dst (.slice ao (n + m) cap)) w') :
    if Region.wanted o (yielded ops a.tmps) = true then Oper.wp P o a w K Q else E := by
  have hw : Region.wanted o (yielded ops a.tmps) = true := by simp [Region.wanted, hg]
  rw [if_pos hw]
  obtain ⟨v', w', hrun, r1, r2⟩ := run_append_three (P := P) w t o.type base e i z bytes ht hi hz hsize hby hzs v n xs hown ad m c news hl hnews h1 h63 hbytes hbase
  obtain ⟨ao, cap, rfl⟩ := owns_form r1
  unfold Oper.wp
  simp [execOp, hop, resolve, invoke, builtin, hs, hx, hrun, Result.andThen]
  exact hK ao cap w' r1 r2
theorem wpList_append_three {P : Program} (w : World) {ops : Array Oper} {rest : List Oper} {o : Oper} {a : Act} {Q : Exit → Act → World → Prop} (hgd : o.guard = none) (s x : Operand) (t : TypeId)
    (ho : o.op = .call { callee := .builtin .append, args := #[s, x], argTypes := #[t, t] })
    (base : Nat) (e : TypeId) (i : TypeInfo) (z : Value) (bytes : Nat) (ht : P.underlying t = some (.slice e)) (hi : P.info? e = some i) (hz : i.zero = some z)
    (hsize : i.size = 1) (hby : i.bytes = bytes) (hzs : z.cells.size = 1)
    (v : Value) (n : Nat) (xs : List Value) (hs : a.eval s = v) (hown : w.ownsRow base e 1 v n xs)
    (ad : Addr) (m c : Nat) (news : List Value) (hx : a.eval x = .slice (some ad) m c) (hl : news.length = m)
    (hnews : ∀ j u, news[j]? = some u → w.cell? (ad.add j) = some u) (h1 : ∀ u ∈ news, u.oneCell' = true)
    (h63 : n + m ≤ maxLen) (hbytes : (n + m) * bytes ≤ 140737488355328) (hbase : base ≤ w.heap.size)
    (h : ∀ ao cap w', w'.ownsRow base e 1 (.slice ao (n + m) cap) (n + m) (xs ++ news) → (((Value.slice ao (n + m) cap).ownBlock = v.ownBlock ∧ w.grownBy w' v.ownBlock) ∨ ((∀ g, (Value.slice ao (n + m) cap).ownBlock = some g → w.heap.size ≤ g) ∧ w.grownBy w' none)) → wpList P ops Q rest (a.put o.dst (.slice ao (n + m) cap)) w') : wpList P ops Q (o :: rest) a w := by
  obtain ⟨v', w', hrun, r1, r2⟩ := run_append_three (P := P) w t o.type base e i z bytes ht hi hz hsize hby hzs v n xs hown ad m c news hl hnews h1 h63 hbytes hbase
  obtain ⟨ao, cap, rfl⟩ := owns_form r1
  refine wpList_plain hgd fun K hK => ?_
  unfold Oper.wp execOp
  simp only [ho, resolve, invoke, builtin, Sem.run_bind, Sem.run_pure, Result.andThen_ok, List.map_toArray, List.map_cons, List.map_nil, hs, hx, hrun]
  exact hK _ _ (h ao cap w' r1 r2)

def mkb (i k : Nat) : Nat := (7 * i + 3 * k + 1) % 256
def marks (i n : Nat) : List Nat := (List.range n).map (mkb i)
theorem marks_length (i n : Nat) : (marks i n).length = n := by simp [marks]
theorem marks_succ (i n : Nat) : marks i (n + 1) = marks i n ++ [mkb i n] := by simp [marks, List.range_succ]
theorem marks_get (i n k : Nat) (h : k < n) : (marks i n)[k]? = some (mkb i k) := by simp [marks, h]
def tl (i k : Nat) : Nat := (200 + i + k) % 256
def tails (i n : Nat) : List Nat := (List.range n).map (tl i)
theorem tails_length (i n : Nat) : (tails i n).length = n := by simp [tails]
theorem tails_succ (i n : Nat) : tails i (n + 1) = tails i n ++ [tl i n] := by simp [tails, List.range_succ]
theorem tails_get (i n k : Nat) (h : k < n) : (tails i n)[k]? = some (tl i k) := by simp [tails, h]

def Sep (a b : Value) : Prop := ∀ g, a.ownBlock = some g → b.ownBlock ≠ some g
theorem Sep.symm {a b : Value} (h : Sep a b) : Sep b a := fun g hb ha => h g ha hb
def OwnSet (n : Nat) (L : Nat → Value) (g : Nat) : Prop := ∃ i, i < n ∧ (L i).ownBlock = some g

/-- lists that were handed out -/
structure Lists (w : World) (B lb lo n : Nat) (L : Nat → Value) (len : Nat → Nat) : Prop where
  cell : ∀ i, i < n → w.cell? ⟨lb, lo + i, none⟩ = some (L i)
  own : ∀ i, i < n → ∃ C : List Nat, w.ownsRow B 5 1 (L i) (len i) (C.map bv)
  sep : ∀ i j, i < n → j < n → i ≠ j → Sep (L i) (L j)
  off : ∀ i, i < n → (L i).ownBlock ≠ some lb
  small : ∀ i, i < n → len i ≤ 4398046511104
  base : B ≤ w.heap.size
theorem Lists.lt {w : World} {B lb lo n : Nat} {L : Nat → Value} {len : Nat → Nat} (h : Lists w B lb lo n L len) (g : Nat) (hg : OwnSet n L g) : g < w.heap.size := by
  obtain ⟨i, hi, e⟩ := hg
  obtain ⟨C, ho⟩ := h.own i hi
  exact (owns_lt ho g e).1
theorem Lists.form {w : World} {B lb lo n : Nat} {L : Nat → Value} {len : Nat → Nat} (h : Lists w B lb lo n L len) (i : Nat) (hi : i < n) : ∃ ao cap, L i = .slice ao (len i) cap ∧ (0 < len i → ∃ g, ao = some ⟨g, 0, none⟩) := by
  obtain ⟨C, ho⟩ := h.own i hi
  rcases ho.2 with ⟨hv, hn⟩ | ⟨g, cap, cur, hv, _⟩
  · exact ⟨none, 0, by rw [hv, hn], fun h => by omega⟩
  · exact ⟨_, _, hv, fun _ => ⟨g, rfl⟩⟩
theorem Lists.cellIn {w wr : World} {B lb lo n : Nat} {L : Nat → Value} {len : Nat → Nat} (h : Lists w B lb lo n L len) (k : KeptIn (OwnSet n L) w wr) (i : Nat) (hi : i < n) : wr.cell? ⟨lb, lo + i, none⟩ = some (L i) := by
  have hc := h.cell i hi
  have hlt := World.block_lt_of_cell? _ _ hc
  have hb := k.block lb hlt (fun ⟨j, hj, e⟩ => h.off j hj e)
  exact (World.cell?_of_block (w := w) (a := ⟨lb, lo + i, none⟩) hb).trans hc

/-- the first part: marks are laid -/
structure AInv (w wr : World) (B n : Nat) (L : Nat → Value) (len : Nat → Nat) (i k : Nat) : Prop where
  done : ∀ j, j < i → j < n → wr.ownsRow B 5 1 (L j) (len j) ((marks j (len j)).map bv)
  cur : i < n → ∃ C : List Nat, wr.ownsRow B 5 1 (L i) (len i) ((marks i k ++ C).map bv)
  rest : ∀ j, i < j → j < n → ∃ C : List Nat, wr.ownsRow B 5 1 (L j) (len j) (C.map bv)
  kept : KeptIn (OwnSet n L) w wr
theorem AInv.start {w : World} {B lb lo n : Nat} {L : Nat → Value} {len : Nat → Nat} (h : Lists w B lb lo n L len) : AInv w w B n L len 0 0 :=
  ⟨fun j hj => by omega, fun hn => h.own 0 hn, fun j _ hj => h.own j hj, KeptIn.refl _ _⟩
theorem AInv.next {w wr : World} {B n : Nat} {L : Nat → Value} {len : Nat → Nat} {i : Nat} (h : AInv w wr B n L len i (len i)) (hi : i < n) : AInv w wr B n L len (i + 1) 0 := by
  refine ⟨fun j hj hn => ?_, fun hn => h.rest (i + 1) (by omega) hn, fun j hj hn => h.rest j (by omega) hn, h.kept⟩
  by_cases e : j = i
  · subst e
    obtain ⟨C, ho⟩ := h.cur hn
    have hl := ho.1
    simp [marks_length] at hl
    subst hl
    simpa using ho
  · exact h.done j (by omega) hn
theorem AInv.store {w wr : World} {B lb lo n : Nat} {L : Nat → Value} {len : Nat → Nat} {i k g cap : Nat} (h0 : Lists w B lb lo n L len) (h : AInv w wr B n L len i k) (hi : i < n) (hk : k < len i) (hL : L i = .slice (some ⟨g, 0, none⟩) (len i) cap) :
    (∃ x, wr.cell? ⟨g, k, none⟩ = some x) ∧ wr.frozen? ⟨g, k, none⟩ = false ∧ AInv w (wr.setCell ⟨g, k, none⟩ (bv (mkb i k))) B n L len i (k + 1) := by
  obtain ⟨C, ho⟩ := h.cur hi
  have hl := ho.1
  simp [marks_length] at hl
  obtain ⟨c, C', rfl⟩ : ∃ c C', C = c :: C' := by
    cases C with
    | nil => simp at hl; omega
    | cons c C' => exact ⟨c, C', rfl⟩
  have hgi : (L i).ownBlock = some g := by rw [hL]; rfl
  rw [hL] at ho
  obtain ⟨hs, hgr⟩ := ho.stored k (bv (mkb i k))
  have hother : ∀ j, j < n → j ≠ i → ∀ g', (L j).ownBlock = some g' → (wr.setCell ⟨g, k, none⟩ (bv (mkb i k))).heap[g']? = wr.heap[g']? := fun j hj hne g' hg' =>
    Below.heap_setCell _ _ _ _ (fun e => h0.sep j i hj hi hne g' hg' (by rw [hgi]; exact congrArg some (show g = g' from e.symm)))
  refine ⟨⟨_, (ho.cellAt k (by omega)).trans (List.getElem?_eq_getElem (by simp [marks_length]))⟩, ho.frozenAt k, ⟨fun j hj hn => owns_same (h.done j hj hn) (hother j hn (by omega)), fun _ => ⟨C', ?_⟩, fun j hj hn => ?_, ?_⟩⟩
  · rw [hL]
    have e : ((marks i k ++ c :: C').map bv).set k (bv (mkb i k)) = (marks i (k + 1) ++ C').map bv := by
      rw [marks_succ, List.append_assoc, List.map_append, List.map_append, List.set_append]
      simp [marks_length]
    rw [e] at hs; exact hs
  · obtain ⟨D, hD⟩ := h.rest j hj hn
    exact ⟨D, owns_same hD (hother j hn (by omega))⟩
  · refine h.kept.trans (T := fun x => x = g) ⟨hgr.os, hgr.tape, hgr.output, hgr.size, fun b hb hS => hgr.block b hb (fun e => hS (Option.some.inj e))⟩ (fun b _ hS e => ?_)
    subst e; exact hS ⟨i, hi, hgi⟩

/-- the bytes of a list can be read -/
def MRow (w : World) (v : Value) (l : List Nat) : Prop := ∀ g, v.ownBlock = some g → ∀ k x, l[k]? = some x → w.cell? ⟨g, k, none⟩ = some (bv x)
theorem mrow_own {w : World} {B n : Nat} {v : Value} {l m : List Nat} (h : w.ownsRow B 5 1 v n ((l ++ m).map bv)) : MRow w v l := by
  intro g hg k x hx
  have hk := (List.getElem?_eq_some_iff.1 hx).1
  have := h.cells hg k (bv x) (by rw [List.getElem?_map, List.getElem?_append_left hk, hx]; rfl)
  rwa [WideShapes.add_plain, Nat.zero_add] at this
theorem mrow_same {w w' : World} {v : Value} {l : List Nat} (h : MRow w v l) (hs : ∀ g, v.ownBlock = some g → w'.heap[g]? = w.heap[g]?) : MRow w' v l := fun g hg k x hx =>
  (World.cell?_of_block (w := w) (a := ⟨g, k, none⟩) (hs g hg)).trans (h g hg k x hx)

/-- the second part: each is grown -/
structure DInv (w wr : World) (B n : Nat) (L : Nat → Value) (len : Nat → Nat) (G : Nat → Value) (u : Value) (i : Nat) (v : Value) (k : Nat) : Prop where
  rest : ∀ j, i < j → j < n → wr.ownsRow B 5 1 (L j) (len j) ((marks j (len j)).map bv)
  read : ∀ j, j < n → MRow wr (L j) (marks j (len j))
  gr : ∀ j, j < i → wr.ownsRow B 5 1 (G j) (len j + 70) ((marks j (len j) ++ tails j 70).map bv)
  sep : ∀ j, j < i → ∀ j', j' < n → j' ≠ j → Sep (G j) (L j')
  row : wr.ownsRow w.heap.size 37 1 u i ((List.range i).map G)
  kept : KeptIn (OwnSet n L) w wr
  cur : wr.ownsRow B 5 1 v (len i + k) ((marks i (len i) ++ tails i k).map bv)
  vsep : ∀ j, j < n → j ≠ i → Sep v (L j)
  gsep : ∀ j, j < i → Sep v (G j)
  vblk : v.ownBlock = (L i).ownBlock ∨ Sep v (L i)
  vset : ∀ g, v.ownBlock = some g → OwnSet n L g ∨ w.heap.size ≤ g
structure CInv (w wr : World) (B n : Nat) (L : Nat → Value) (len : Nat → Nat) (G : Nat → Value) (u : Value) (i : Nat) : Prop where
  rest : ∀ j, i ≤ j → j < n → wr.ownsRow B 5 1 (L j) (len j) ((marks j (len j)).map bv)
  read : ∀ j, j < n → MRow wr (L j) (marks j (len j))
  gr : ∀ j, j < i → wr.ownsRow B 5 1 (G j) (len j + 70) ((marks j (len j) ++ tails j 70).map bv)
  sep : ∀ j, j < i → ∀ j', j' < n → j' ≠ j → Sep (G j) (L j')
  row : wr.ownsRow w.heap.size 37 1 u i ((List.range i).map G)
  kept : KeptIn (OwnSet n L) w wr
theorem CInv.start {w wr : World} {B n : Nat} {L : Nat → Value} {len : Nat → Nat} {k : Nat} (h : AInv w wr B n L len n k) (G : Nat → Value) : CInv w wr B n L len G (.slice none 0 0) 0 :=
  ⟨fun j _ hj => h.done j hj hj, fun j hj => mrow_own (m := []) (by rw [List.append_nil]; exact h.done j hj hj), fun j hj => by omega, fun j hj => by omega, World.ownsRow_nil _ _ _ _, h.kept⟩
theorem CInv.begin {w wr : World} {B lb lo n i : Nat} {L : Nat → Value} {len : Nat → Nat} {G : Nat → Value} {u : Value} (h0 : Lists w B lb lo n L len) (h : CInv w wr B n L len G u i) (hi : i < n) : DInv w wr B n L len G u i (L i) 0 :=
  ⟨fun j hj => h.rest j (by omega), h.read, h.gr, h.sep, h.row, h.kept, by simpa [tails] using h.rest i (Nat.le_refl _) hi, fun j hj hne => h0.sep i j hi hj (by omega), fun j hj => (h.sep j hj i hi (by omega)).symm, .inl rfl, fun g hg => .inl ⟨i, hi, hg⟩⟩

theorem DInv.grow {w wr W0 w1 : World} {B lb lo n i k : Nat} {L : Nat → Value} {len : Nat → Nat} {G : Nat → Value} {u v v' : Value} (h0 : Lists w B lb lo n L len) (hi : i < n) (h : DInv w wr B n L len G u i v k) (hb : Below wr.heap.size wr W0)
    (ho : w1.ownsRow B 5 1 v' (len i + k + 1) ((marks i (len i) ++ tails i k).map bv ++ [bv (tl i k)]))
    (hf : (v'.ownBlock = v.ownBlock ∧ W0.grownBy w1 v.ownBlock) ∨ ((∀ g, v'.ownBlock = some g → W0.heap.size ≤ g) ∧ W0.grownBy w1 none)) : DInv w w1 B n L len G u i v' (k + 1) := by
  have ho' : w1.ownsRow B 5 1 v' (len i + (k + 1)) ((marks i (len i) ++ tails i (k + 1)).map bv) := by
    rw [tails_succ, ← List.append_assoc, List.map_append]; exact ho
  have hg : W0.grownBy w1 v.ownBlock := by
    rcases hf with ⟨_, hg⟩ | ⟨_, hg⟩
    · exact hg
    · exact ⟨hg.os, hg.tape, hg.output, hg.size, fun b hb' _ => hg.block b hb' (by simp)⟩
  have hblk : ∀ b, b < wr.heap.size → v.ownBlock ≠ some b → w1.heap[b]? = wr.heap[b]? := fun b hb' hne => by
    rw [hg.block b (Nat.lt_of_lt_of_le hb' hb.size) (fun e => hne e.symm)]; exact hb.block b hb'
  have hsz : wr.heap.size ≤ w1.heap.size := Nat.le_trans hb.size hg.size
  have hLt : ∀ j, j < n → ∀ g, (L j).ownBlock = some g → g < wr.heap.size := fun j hj g hg' => Nat.lt_of_lt_of_le (h0.lt g ⟨j, hj, hg'⟩) h.kept.size
  have hvt : ∀ g, v.ownBlock = some g → ∃ cur, wr.heap[g]? = some (.cells cur 5 (0, 0)) := fun g hg' => owns_type h.cur g hg'
  -- a block that v is apart from stays, and v' is apart from it
  have hsep : ∀ x : Value, (∀ g, x.ownBlock = some g → g < wr.heap.size) → Sep v x → Sep v' x := fun x hx hs g hg' e => by
    rcases hf with ⟨hf1, _⟩ | ⟨hf1, _⟩
    · exact hs g (hf1 ▸ hg') e
    · have h1 := hf1 g hg'
      have h2 := hx g e
      have h3 := hb.size
      omega
  have hGt : ∀ j, j < i → ∀ g, (G j).ownBlock = some g → g < wr.heap.size := fun j hj g hg' => (owns_lt (h.gr j hj) g hg').1
  refine ⟨fun j hj hn => ?_, fun j hn => ?_, fun j hj => ?_, h.sep, ?_, ?_, ho', fun j hj hne => hsep _ (hLt j hj) (h.vsep j hj hne), fun j hj => hsep _ (hGt j hj) (h.gsep j hj), ?_, fun g hg' => ?_⟩
  · exact owns_same (h.rest j hj hn) fun g hg' => hblk g (hLt j hn g hg') (fun e => h.vsep j hn (by omega) g e hg')
  · by_cases e : j = i
    · subst e
      rcases h.vblk with hv | hv
      · rcases hf with ⟨hf1, _⟩ | ⟨hf1, hg2⟩
        · intro g hg' k' x hx
          exact mrow_own (by rw [List.map_append] at ho'; rw [List.map_append]; exact ho') g (by rw [hf1, hv]; exact hg') k' x hx
        · refine mrow_same (h.read j hn) fun g hg' => ?_
          rw [hg2.block g (Nat.lt_of_lt_of_le (hLt j hn g hg') hb.size) (by simp)]
          exact hb.block g (hLt j hn g hg')
      · exact mrow_same (h.read j hn) fun g hg' => hblk g (hLt j hn g hg') (fun e => hv g e hg')
    · exact mrow_same (h.read j hn) fun g hg' => hblk g (hLt j hn g hg') (fun e' => h.vsep j hn e g e' hg')
  · exact owns_same (h.gr j hj) fun g hg' => hblk g (hGt j hj g hg') (fun e => h.gsep j hj g e hg')
  · refine owns_same h.row fun g hg' => hblk g (owns_lt h.row g hg').1 (fun e => ?_)
    obtain ⟨c1, e1⟩ := owns_type h.row g hg'
    obtain ⟨c2, e2⟩ := hvt g e
    rw [e1] at e2; simp at e2
  · refine ⟨hg.os.trans (hb.os.trans h.kept.os), hg.tape.trans (hb.tape.trans h.kept.tape), hg.output.trans (hb.output.trans h.kept.output), Nat.le_trans h.kept.size hsz, fun b hb' hS => ?_⟩
    rw [hblk b (Nat.lt_of_lt_of_le hb' h.kept.size) (fun e => ?_)]
    · exact h.kept.block b hb' hS
    · rcases h.vset b e with h1 | h1
      · exact hS h1
      · omega
  · rcases h.vblk with hv | hv
    · rcases hf with ⟨hf1, _⟩ | ⟨hf1, _⟩
      · exact .inl (hf1.trans hv)
      · refine .inr fun g hg' e => ?_
        have h1 := hf1 g hg'
        have h2 := hLt i hi g e
        have h3 := hb.size
        omega
    · exact .inr (hsep _ (hLt i hi) hv)
  · rcases hf with ⟨hf1, _⟩ | ⟨hf1, _⟩
    · exact h.vset g (hf1 ▸ hg')
    · right
      have h1 := hf1 g hg'
      have h2 := h.kept.size
      have h3 := hb.size
      omega

def updV (G : Nat → Value) (i : Nat) (v : Value) (j : Nat) : Value := if j = i then v else G j
theorem DInv.finish {w wr W0 w1 : World} {B lb lo n i : Nat} {L : Nat → Value} {len : Nat → Nat} {G : Nat → Value} {u u' v : Value} (h0 : Lists w B lb lo n L len) (hi : i < n) (h : DInv w wr B n L len G u i v 70) (hb : Below wr.heap.size wr W0)
    (ho : w1.ownsRow w.heap.size 37 1 u' (i + 1) ((List.range i).map G ++ [v])) (hg : W0.grownBy w1 u.ownBlock) : CInv w w1 B n L len (updV G i v) u' (i + 1) := by
  have hblk : ∀ b, b < wr.heap.size → u.ownBlock ≠ some b → w1.heap[b]? = wr.heap[b]? := fun b hlt hne => by
    rw [hg.block b (Nat.lt_of_lt_of_le hlt hb.size) (fun e => hne e.symm)]; exact hb.block b hlt
  have hL : ∀ j, j < n → ∀ g, (L j).ownBlock = some g → w1.heap[g]? = wr.heap[g]? := fun j hj g hg' => by
    have hlt := h0.lt g ⟨j, hj, hg'⟩
    exact hblk g (Nat.lt_of_lt_of_le hlt h.kept.size) (fun e => by have := (owns_lt h.row g e).2; omega)
  have hV : ∀ (x : Value) (m : Nat) (xs : List Value), wr.ownsRow B 5 1 x m xs → w1.ownsRow B 5 1 x m xs := fun x m xs hx => owns_same hx fun g hg' => hblk g (owns_lt hx g hg').1 (fun e => by
    obtain ⟨c1, e1⟩ := owns_type h.row g e
    obtain ⟨c2, e2⟩ := owns_type hx g hg'
    rw [e1] at e2; simp at e2)
  refine ⟨fun j hj hn => hV _ _ _ (h.rest j (by omega) hn), fun j hn => mrow_same (h.read j hn) (hL j hn), fun j hj => ?_, fun j hj j' hj' hne => ?_, ?_, ?_⟩
  · by_cases e : j = i
    · subst e; simp only [updV, if_pos]; exact hV _ _ _ h.cur
    · simp only [updV, if_neg e]; exact hV _ _ _ (h.gr j (by omega))
  · by_cases e : j = i
    · subst e; simp only [updV, if_pos]; exact h.vsep j' hj' hne
    · simp only [updV, if_neg e]; exact h.sep j (by omega) j' hj' hne
  · have e : (List.range (i + 1)).map (updV G i v) = (List.range i).map G ++ [v] := by
      rw [List.range_succ, List.map_append]
      congr 1
      · apply List.map_congr_left
        intro j hj
        have : j < i := List.mem_range.1 hj
        simp only [updV, if_neg (show ¬ j = i by omega)]
      · simp [updV]
    rw [e]; exact ho
  · refine ⟨hg.os.trans (hb.os.trans h.kept.os), hg.tape.trans (hb.tape.trans h.kept.tape), hg.output.trans (hb.output.trans h.kept.output), Nat.le_trans h.kept.size (Nat.le_trans hb.size hg.size), fun b hb' hS => ?_⟩
    rw [hblk b (Nat.lt_of_lt_of_le hb' h.kept.size) (fun e => by have := (owns_lt h.row b e).2; omega)]
    exact h.kept.block b hb' hS
end Go.Proofs.YtpkobgnbjmefnabDoor
