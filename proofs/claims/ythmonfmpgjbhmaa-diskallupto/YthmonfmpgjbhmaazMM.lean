import Derived.Test.YthmonfmpgjbhmaazML
namespace Go.Proofs.Ythmonfmpgjbhmaa.K
open Go.RowKit Go.Maps Go.Proofs.Ythmonfmpgjbhmaa
attribute [local go_sem] Oper.semAt_some
set_option linter.unusedVariables false
set_option linter.unusedSimpArgs false
set_option maxRecDepth 100000

abbrev TBss : TypeId := 122
def mark (i k : Nat) : Nat := (11 * i + 3 * k + 5) % 256
def marks (i n : Nat) : List Nat := (List.range n).map (mark i)
def moreB (i k : Nat) : Nat := (100 + i + k) % 256
def mores (i n : Nat) : List Nat := (List.range n).map (moreB i)
theorem u8_mark (i k : Nat) : IntKind.u8.wrap (11 * (i : Int) + 3 * (k : Int) + 5) = (mark i k : Int) := by
  rw [IntKind.wrap_u8]
  unfold mark
  omega
theorem u8_more (i k : Nat) : IntKind.u8.wrap (100 + (i : Int) + (k : Int)) = (moreB i k : Int) := by
  rw [IntKind.wrap_u8]
  unfold moreB
  omega
/-- lists of bytes that were handed out: each its own block -/
abbrev Vn := Value × Nat
structure Ls (W : World) (F : List Nat) (lv : Value) (vs : List Vn) : Prop where
  row : W.ownsRow 0 TBs 1 lv vs.length (vs.map (·.1))
  pos : ∀ (j : Nat) v n, vs[j]? = some (v, n) → 0 < n ∧ n ≤ 33554432 ∧ ∃ g cap, v = .slice (some ⟨g, 0, none⟩) n cap ∧ g ∈ F
  two : ∀ (j j' : Nat) v n v' n', vs[j]? = some (v, n) → vs[j']? = some (v', n') → j ≠ j' → v.ownBlock ≠ v'.ownBlock
/-- their bytes, as far as they are marked -/
def Mk (W : World) (vs : List Vn) (i k : Nat) : Prop := ∀ (j : Nat) v n, vs[j]? = some (v, n) → ∃ l : List Nat, l.length = n ∧ W.ownsRow 0 5 1 v n (l.map bv) ∧ ∀ t, t < n → (j < i ∨ j = i ∧ t < k) → l[t]? = some (mark j t)
theorem Mk.set {W : World} {F : List Nat} {lv : Value} {vs : List Vn} {i k n : Nat} {v : Value} (hl : Ls W F lv vs) (h : Mk W vs i k) (hi : vs[i]? = some (v, n)) (hk : k < n) {g cap : Nat} (hv : v = .slice (some ⟨g, 0, none⟩) n cap) : Mk (W.setCell ⟨g, k, none⟩ (bv (mark i k))) vs i (k + 1) := by
  intro j u m hj
  obtain ⟨l, hl1, hl2, hl3⟩ := h j u m hj
  by_cases e : j = i
  · subst e
    rw [hi] at hj
    cases hj
    refine ⟨l.set k (mark j k), by simp [hl1], ?_, fun t ht hc => ?_⟩
    · rw [hv] at hl2 ⊢
      have h1 := row_set (bv (mark j k)) hl2 (j := k) (by rw [List.length_map, hl1]; exact hk)
      rw [← List.map_set] at h1
      exact h1
    · rw [List.getElem?_set]
      by_cases e2 : k = t
      · subst e2; rw [if_pos rfl, if_pos (by omega)]
      · rw [if_neg e2]
        exact hl3 t ht (by omega)
  · refine ⟨l, hl1, ownsRow_block hl2 (fun x hx => Below.heap_setCell _ _ _ _ ?_), fun t ht hc => hl3 t ht (by omega)⟩
    intro e2
    have e2 : x = g := e2
    subst e2
    exact hl.two j i u m v n hj hi e (by rw [hx, hv]; rfl)
theorem Mk.next {W : World} {vs : List Vn} {i n : Nat} {v : Value} (h : Mk W vs i n) (hi : vs[i]? = some (v, n)) : Mk W vs (i + 1) 0 := by
  intro j u m hj
  obtain ⟨l, hl1, hl2, hl3⟩ := h j u m hj
  refine ⟨l, hl1, hl2, fun t ht hc => hl3 t ht ?_⟩
  by_cases e : j = i
  · subst e
    rw [hi] at hj
    cases hj
    exact .inr ⟨rfl, ht⟩
  · left; omega
theorem Mk.kept {W W' : World} {F : List Nat} {lv : Value} {vs : List Vn} {i k : Nat} (h : Mk W vs i k) (hs : ∀ (j : Nat) v n, vs[j]? = some (v, n) → ∀ g, v.ownBlock = some g → W'.heap[g]? = W.heap[g]?) : Mk W' vs i k := by
  intro j u m hj
  obtain ⟨l, hl1, hl2, hl3⟩ := h j u m hj
  exact ⟨l, hl1, ownsRow_block hl2 (hs j u m hj), hl3⟩
theorem Ls.same {W W' : World} {F : List Nat} {lv : Value} {vs : List Vn} (h : Ls W F lv vs) (hs : ∀ g, lv.ownBlock = some g → W'.heap[g]? = W.heap[g]?) : Ls W' F lv vs := ⟨ownsRow_block h.row hs, h.pos, h.two⟩
theorem Ls.at_ {W : World} {F : List Nat} {ao : Option Addr} {m c : Nat} {vs : List Vn} (h : Ls W F (.slice ao m c) vs) {j : Nat} {v : Value} {n : Nat} (hj : vs[j]? = some (v, n)) : ∃ g, ao = some ⟨g, 0, none⟩ ∧ W.cell? ⟨g, j, none⟩ = some v := by
  have hlt := (List.getElem?_eq_some_iff.1 hj).1
  rcases h.row.2 with ⟨e, h0⟩ | ⟨g, cap, cur, e, _⟩
  · omega
  · have e2 := e
    simp at e
    refine ⟨g, e.1, ?_⟩
    have hr := h.row
    rw [e2] at hr
    have hm : m = vs.length := e.2.1
    rw [hr.cellAt j (by omega), List.getElem?_map, hj]
    rfl
/-- append to a row of one's own: in its place, or in a new block, the old one as it was -/
theorem wpList_append_keep {P : Program} (w : World) {ops : Array Oper} {rest : List Oper} {o : Oper} {a : Act} {Q : Exit → Act → World → Prop} (hgd : o.guard = none) (s x : Operand) (t : TypeId)
    (ho : o.op = .call { callee := .builtin .append, args := #[s, x], argTypes := #[t, t] })
    (e : TypeId) (i : TypeInfo) (z : Value) (bytes : Nat) (ht : P.underlying t = some (.slice e)) (hi : P.info? e = some i) (hz : i.zero = some z)
    (hsize : i.size = 1) (hby : i.bytes = bytes) (hzs : z.cells.size = 1)
    (g n cap : Nat) (xs : List Value) (hs : a.eval s = .slice (some ⟨g, 0, none⟩) n cap) (hown : w.ownsRow 0 e 1 (.slice (some ⟨g, 0, none⟩) n cap) n xs)
    (ad : Addr) (m c : Nat) (news : List Value) (hx : a.eval x = .slice (some ad) m c) (hl : news.length = m)
    (hnews : ∀ j u, news[j]? = some u → w.cell? (ad.add j) = some u) (h1 : ∀ u ∈ news, u.oneCell' = true) (hm : 0 < m)
    (h63 : n + m ≤ maxLen) (hbytes : (n + m) * bytes ≤ 140737488355328)
    (h : ∀ v' w', w'.ownsRow 0 e 1 v' (n + m) (xs ++ news) → ((v' = .slice (some ⟨g, 0, none⟩) (n + m) cap ∧ w.grownBy w' (some g)) ∨ (∃ y c', v' = .slice (some ⟨y, 0, none⟩) (n + m) c' ∧ w.heap.size ≤ y ∧ w.grownBy w' none)) → wpList P ops Q rest (a.put o.dst v') w') : wpList P ops Q (o :: rest) a w := by
  have hl' : news.length = m * 1 := by omega
  by_cases hroom : n + m ≤ cap
  · refine wpList_append_fits w hgd s x t ho 0 e i 1 ht hi hsize g n cap xs hs hown ad m c news hx hl' hnews h1 hroom ?_
    intro w' ho' hg'
    exact h _ w' ho' (.inl ⟨rfl, hg'⟩)
  · refine wpList_append_grows w hgd s x t ho e i z 1 bytes ht hi hz hsize hby hzs (by decide) (some ⟨g, 0, none⟩) n cap xs hs (fun h => by simp at h) (by simpa using hown.1) ?_ ad m c news hx hl' hnews h1 (by omega) h63 hbytes ?_
    · intro b hb j u hu
      cases hb
      have hj : j < n * 1 := by
        have := (List.getElem?_eq_some_iff.1 hu).1
        rw [hown.1] at this; exact this
      rw [WideShapes.add_plain, Nat.zero_add, hown.cellAt j hj]; exact hu
    · intro v' w' ho' hg'
      refine h v' w' (owns_mono ho' (Nat.zero_le _)) (.inr ?_)
      rcases ho'.2 with ⟨hv', hn'⟩ | ⟨g', cap', cur', hv', hy, _⟩
      · omega
      · exact ⟨g', cap', hv', hy, hg'⟩
theorem own_prefix {w : World} {T g n m cap : Nat} {xs ys : List Value} (h : w.ownsRow 0 T 1 (.slice (some ⟨g, 0, none⟩) m cap) m (xs ++ ys)) (hn : xs.length = n) : w.ownsRow 0 T 1 (.slice (some ⟨g, 0, none⟩) n cap) n xs := by
  have hm := h.1
  rw [List.length_append, hn] at hm
  rcases h.2 with ⟨e, _⟩ | ⟨g', cap', cur, e, h1, h2, h3, h4, h5, h6⟩
  · cases e
  · simp at e
    obtain ⟨rfl, _, rfl⟩ := e
    refine ⟨by omega, .inr ⟨g, cap, cur, rfl, h1, h2, by omega, h4, h5, ?_⟩⟩
    have h7 := congrArg (List.take (n * 1)) h6
    rw [List.take_take, Nat.min_eq_left (by omega), List.take_append_of_le_length (by omega), List.take_of_length_le (l := xs) (by omega)] at h7
    exact h7
/-- the lists are marked, and some of them are grown -/
structure Gr (W wr : World) (F : List Nat) (vs : List Vn) (gs : List Value) : Prop where
  kp : Kp W wr F
  mkd : ∀ (j : Nat) v n, vs[j]? = some (v, n) → wr.ownsRow 0 5 1 v n ((marks j n).map bv)
  gr : ∀ (j : Nat) v n g, vs[j]? = some (v, n) → gs[j]? = some g → (∃ y cg, g = .slice (some ⟨y, 0, none⟩) (n + 70) cg) ∧ wr.ownsRow 0 5 1 g (n + 70) ((marks j n ++ mores j 70).map bv) ∧ (g.ownBlock = v.ownBlock ∨ ∃ x, g.ownBlock = some x ∧ W.heap.size ≤ x)
  tw : ∀ (j j' : Nat) g g', gs[j]? = some g → gs[j']? = some g' → j ≠ j' → g.ownBlock ≠ g'.ownBlock
/-- one of them grows -/
structure Cu (W wr : World) (gs : List Value) (i n k : Nat) (v cur : Value) : Prop where
  row : wr.ownsRow 0 5 1 cur (n + k) ((marks i n ++ mores i k).map bv)
  pl : (∃ g cap, v = .slice (some ⟨g, 0, none⟩) n cap ∧ cur = .slice (some ⟨g, 0, none⟩) (n + k) cap) ∨ ∃ y c, cur = .slice (some ⟨y, 0, none⟩) (n + k) c ∧ W.heap.size ≤ y
  ne : ∀ (j : Nat) g, gs[j]? = some g → cur.ownBlock ≠ g.ownBlock
theorem marks_len (i n : Nat) : (marks i n).length = n := by simp [marks]
theorem mores_len (i n : Nat) : (mores i n).length = n := by simp [mores]
theorem mores_succ (i n : Nat) : mores i (n + 1) = mores i n ++ [moreB i n] := by simp [mores, List.range_succ]
theorem Mk.done {W : World} {vs : List Vn} {i k : Nat} (h : Mk W vs i k) (hi : vs.length ≤ i) : ∀ (j : Nat) v n, vs[j]? = some (v, n) → W.ownsRow 0 5 1 v n ((marks j n).map bv) := by
  intro j v n hj
  obtain ⟨l, hl1, hl2, hl3⟩ := h j v n hj
  have e : l = marks j n := by
    apply List.ext_getElem?
    intro t
    by_cases ht : t < n
    · have hlt := (List.getElem?_eq_some_iff.1 hj).1
      rw [hl3 t ht (by omega)]
      unfold marks
      rw [List.getElem?_map, List.getElem?_range ht]
      rfl
    · rw [List.getElem?_eq_none (by omega), List.getElem?_eq_none (by rw [marks_len]; omega)]
  rw [← e]
  exact hl2
/-- a row of bytes that grows leaves the others -/
theorem Gr.grow {W wr w' : World} {F : List Nat} {lv : Value} {vs : List Vn} {gs : List Value} {i n k : Nat} {v cur cur' : Value} {o : Obj} (hl : Ls W F lv vs) (hF : ∀ g ∈ F, g < W.heap.size) (h : Gr W wr F vs gs) (hi : vs[i]? = some (v, n)) (hgi : gs.length ≤ i) (hc : Cu W wr gs i n k v cur) {g cap : Nat} (hcur : cur = .slice (some ⟨g, 0, none⟩) (n + k) cap)
    (hrow : w'.ownsRow 0 5 1 cur' (n + k + 1) ((marks i n ++ mores i k).map bv ++ [bv (moreB i k)]))
    (hg : (cur' = .slice (some ⟨g, 0, none⟩) (n + k + 1) cap ∧ (wr.alloc o).grownBy w' (some g)) ∨ (∃ y c', cur' = .slice (some ⟨y, 0, none⟩) (n + k + 1) c' ∧ (wr.alloc o).heap.size ≤ y ∧ (wr.alloc o).grownBy w' none)) :
    Gr W w' F vs gs ∧ Cu W w' gs i n (k + 1) v cur' := by
  have hsz := h.kp.size
  have hrow' : w'.ownsRow 0 5 1 cur' (n + (k + 1)) ((marks i n ++ mores i (k + 1)).map bv) := by
    rw [mores_succ, ← List.append_assoc, List.map_append (l₁ := marks i n ++ mores i k)]
    exact hrow
  have hvb : ∀ (j : Nat) u m, vs[j]? = some (u, m) → ∃ x, u.ownBlock = some x ∧ x ∈ F := fun j u m hj => by
    obtain ⟨_, _, x, c, rfl, hx⟩ := hl.pos j u m hj
    exact ⟨x, rfl, hx⟩
  -- the block that is written, if any
  have hkeep : ∀ x, x < wr.heap.size → x ≠ g → w'.heap[x]? = wr.heap[x]? := fun x hx hne => by
    rcases hg with ⟨_, hg⟩ | ⟨y, c', _, _, hg⟩
    · exact (hg.block x (by rw [World.size_alloc]; omega) (by simp; exact hne)).trans (Below.heap_alloc _ _ _ hx)
    · exact (hg.block x (by rw [World.size_alloc]; omega) (by simp)).trans (Below.heap_alloc _ _ _ hx)
  have hgc : cur.ownBlock = some g := by rw [hcur]; rfl
  have hgl : g < wr.heap.size := (row_lt hc.row g hgc).1
  -- g is i's block or a new one
  have hgv : ∀ (j : Nat) u m, vs[j]? = some (u, m) → j ≠ i → u.ownBlock ≠ some g := fun j u m hj hji e => by
    rcases hc.pl with ⟨g', cap', hv, hcu⟩ | ⟨y, c, hcu, hy⟩
    · rw [hcur] at hcu
      simp at hcu
      exact hl.two j i u m v n hj hi hji (by rw [e, hv, hcu.1]; rfl)
    · rw [hcur] at hcu
      simp at hcu
      obtain ⟨x, hx, hxF⟩ := hvb j u m hj
      rw [e] at hx
      cases hx
      have := hF _ hxF
      omega
  have hmk : ∀ (j : Nat) u m, vs[j]? = some (u, m) → w'.ownsRow 0 5 1 u m ((marks j m).map bv) := fun j u m hj => by
    by_cases hji : j = i
    · subst hji
      rw [hi] at hj
      cases hj
      rcases hc.pl with ⟨g', cap', hv, hcu⟩ | ⟨y, c, hcu, hy⟩
      · rw [hcur] at hcu
        simp at hcu
        obtain ⟨rfl, rfl⟩ := hcu
        rcases hg with ⟨rfl, hg⟩ | ⟨y, c', rfl, hy, hg⟩
        · rw [hv]
          have h1 := hrow
          rw [List.map_append, List.append_assoc] at h1
          exact own_prefix h1 (by rw [List.length_map, marks_len])
        · refine ownsRow_block (h.mkd j v n hi) (fun x hx => ?_)
          have hxl := (row_lt (h.mkd j v n hi) x hx).1
          exact (hg.block x (by rw [World.size_alloc]; omega) (by simp)).trans (Below.heap_alloc _ _ _ hxl)
      · refine ownsRow_block (h.mkd j v n hi) (fun x hx => hkeep x (row_lt (h.mkd j v n hi) x hx).1 (fun e => ?_))
        rw [hcur] at hcu
        simp at hcu
        obtain ⟨x', hx', hxF⟩ := hvb j v n hi
        rw [hx] at hx'
        cases hx'
        have := hF _ hxF
        omega
    · exact ownsRow_block (h.mkd j u m hj) (fun x hx => hkeep x (row_lt (h.mkd j u m hj) x hx).1 (fun e => hgv j u m hj hji (by rw [hx, e])))
  have hkp : Kp W w' F := by
    rcases hg with ⟨_, hg⟩ | ⟨y, c', _, _, hg⟩
    · refine Kp.grown (h.kp.trans (Kp.of_below ((Below.refl _ wr).alloc (Nat.le_refl _) o) []) (by simp)) hg (fun x e => ?_)
      cases e
      rcases hc.pl with ⟨g', cap', hv, hcu⟩ | ⟨y, c, hcu, hy⟩
      · rw [hcur] at hcu
        simp at hcu
        obtain ⟨x', hx', hxF⟩ := hvb i v n hi
        rw [hv] at hx'
        simp [Value.ownBlock] at hx'
        left; rw [hcu.1, hx']; exact hxF
      · rw [hcur] at hcu
        simp at hcu
        right; omega
    · exact Kp.grown (h.kp.trans (Kp.of_below ((Below.refl _ wr).alloc (Nat.le_refl _) o) []) (by simp)) hg (fun x e => by cases e)
  refine ⟨⟨hkp, hmk, fun j u m y hj hy => ?_, h.tw⟩, ⟨hrow', ?_, fun j y hy => ?_⟩⟩
  · obtain ⟨p1, p2, p3⟩ := h.gr j u m y hj hy
    refine ⟨p1, ownsRow_block p2 (fun x hx => hkeep x (row_lt p2 x hx).1 (fun e => hc.ne j y hy (by rw [hgc, hx, e]))), p3⟩
  · rcases hg with ⟨rfl, hg⟩ | ⟨y, c', rfl, hy, hg⟩
    · rcases hc.pl with ⟨g', cap', hv, hcu⟩ | ⟨y, c, hcu, hy⟩
      · rw [hcur] at hcu
        simp at hcu
        exact .inl ⟨g', cap', hv, by rw [hcu.1, hcu.2]; rfl⟩
      · rw [hcur] at hcu
        simp at hcu
        exact .inr ⟨g, cap, rfl, by omega⟩
    · rw [World.size_alloc] at hy
      exact .inr ⟨y, c', rfl, by omega⟩
  · rcases hg with ⟨rfl, hg⟩ | ⟨y', c', rfl, hy', hg⟩
    · intro e
      exact hc.ne j y hy (by rw [hgc]; exact e)
    · intro e
      have hjl := (List.getElem?_eq_some_iff.1 hy).1
      rw [World.size_alloc] at hy'
      have hji : j < vs.length := by have := (List.getElem?_eq_some_iff.1 hi).1; omega
      obtain ⟨u, m⟩ : Vn := vs[j]
      have hvj : vs[j]? = some vs[j] := List.getElem?_eq_getElem hji
      obtain ⟨p1, p2, p3⟩ := h.gr j vs[j].1 vs[j].2 y hvj hy
      have := (row_lt p2 y' e.symm).1
      omega
theorem infoBs : (Try.prog.info? 22).map (fun i => (i.zero, i.size, i.bytes)) = some (some (.slice none 0 0), 1, 24) := by kernel_rfl
/-- one more is grown -/
theorem Gr.push {W wr w' : World} {F : List Nat} {lv : Value} {vs : List Vn} {gs : List Value} {i n : Nat} {v cur : Value} (hl : Ls W F lv vs) (h : Gr W wr F vs gs) (hi : vs[i]? = some (v, n)) (hgi : gs.length = i) (hc : Cu W wr gs i n 70 v cur) (hkp : Kp W w' F)
    (hs : ∀ (x : Nat) (cs : Array Value), wr.heap[x]? = some (Obj.cells cs 5 (0, 0)) → w'.heap[x]? = wr.heap[x]?) : Gr W w' F vs (gs ++ [cur]) := by
  have hk : ∀ {u : Value} {m : Nat} {xs : List Value}, wr.ownsRow 0 5 1 u m xs → w'.ownsRow 0 5 1 u m xs := fun {u m xs} hu => ownsRow_block hu (fun x hx => by obtain ⟨_, cs, hc⟩ := row_lt hu x hx; exact hs x cs hc)
  have hcf : ∃ y cg, cur = .slice (some ⟨y, 0, none⟩) (n + 70) cg := by
    rcases hc.pl with ⟨g, cap, _, e⟩ | ⟨y, c, e, _⟩
    · exact ⟨_, _, e⟩
    · exact ⟨_, _, e⟩
  refine ⟨hkp, fun j u m hj => hk (h.mkd j u m hj), fun j u m g hj hg => ?_, fun j j' g g' hg hg' hne => ?_⟩
  · by_cases hjl : j < gs.length
    · rw [List.getElem?_append_left hjl] at hg
      obtain ⟨p1, p2, p3⟩ := h.gr j u m g hj hg
      exact ⟨p1, hk p2, p3⟩
    · have hjj : j = i := by
        have := (List.getElem?_eq_some_iff.1 hg).1
        simp at this
        omega
      subst hjj
      rw [hi] at hj
      cases hj
      rw [List.getElem?_append_right (by omega), hgi, Nat.sub_self] at hg
      simp at hg
      subst hg
      refine ⟨hcf, hk hc.row, ?_⟩
      rcases hc.pl with ⟨g, cap, e1, e2⟩ | ⟨y, c, e, hy⟩
      · left; rw [e1, e2]; rfl
      · right; exact ⟨y, by rw [e]; rfl, hy⟩
  · have hlast : ∀ {t : Nat} {y : Value}, (gs ++ [cur])[t]? = some y → (t < gs.length ∧ gs[t]? = some y) ∨ (t = gs.length ∧ y = cur) := fun {t y} hy => by
      by_cases ht : t < gs.length
      · rw [List.getElem?_append_left ht] at hy; exact .inl ⟨ht, hy⟩
      · have := (List.getElem?_eq_some_iff.1 hy).1
        simp at this
        have e : t = gs.length := by omega
        subst e
        simp at hy
        exact .inr ⟨rfl, hy.symm⟩
    rcases hlast hg with ⟨a1, a2⟩ | ⟨a1, rfl⟩
    · rcases hlast hg' with ⟨b1, b2⟩ | ⟨b1, rfl⟩
      · exact h.tw j j' g g' a2 b2 hne
      · exact fun e => hc.ne j g a2 e.symm
    · rcases hlast hg' with ⟨b1, b2⟩ | ⟨b1, rfl⟩
      · exact hc.ne j' g' b2
      · omega
theorem marks_at {i n t : Nat} (ht : t < n) : ((marks i n).map bv)[t]? = some (.int .u8 (mark i t)) := by
  unfold marks
  rw [List.getElem?_map, List.getElem?_map, List.getElem?_range ht]
  rfl
theorem mores_at {i n t : Nat} (ht : t < 70) : ((marks i n ++ mores i 70).map bv)[n + t]? = some (.int .u8 (moreB i t)) := by
  rw [List.getElem?_map, List.getElem?_append_right (by rw [marks_len]; omega), marks_len, show n + t - n = t by omega]
  unfold mores
  rw [List.getElem?_map, List.getElem?_range ht]
  rfl
set_option maxHeartbeats 8000000 in
theorem own_any {W : World} {F : List Nat} {lv : Value} {vs : List Vn} (hl : Ls W F lv vs) (hm : Mk W vs 0 0) (hlen : vs.length ≤ 2097152) (hF : ∀ g ∈ F, g < W.heap.size) (hlF : ∀ g, lv.ownBlock = some g → g ∉ F) :
    Calls Try.prog 77 #[lv] W fun r W' => r = .returned (.bool true) ∧ Kp W W' F := by
  obtain ⟨ao, c, rfl⟩ := own_slice hl.row
  obtain ⟨m, hmm⟩ : ∃ m, m = vs.length := ⟨_, rfl⟩
  have HM : Hid (vs.length = m) := hmm.symm
  rw [← hmm] at hl hlF hlen ⊢
  have HL : Hid (Ls W F (.slice ao m c) vs) := hl
  have HMk : Hid (Mk W vs 0 0) := hm
  have HF : Hid (∀ g ∈ F, g < W.heap.size) := hF
  have HlF : Hid (∀ g, (Value.slice ao m c).ownBlock = some g → g ∉ F) := hlF
  clear hl hm hF hlF hmm
  go_enter Try.func77, Try.ntmps77
  go_wp2
  go_loopw [3] (fun c3 wr => ∃ i : Nat, i ≤ m ∧ c3 = .int .i64 i ∧ Hid (Kp W wr F ∧ Ls wr F (.slice ao m c) vs ∧ Mk wr vs i 0)) (fun c3 _ => m - (intOf c3).toNat)
  case atStart => exact ⟨0, Nat.zero_le _, rfl, ⟨Kp.refl _ _, HL.out, HMk.out⟩⟩
  case round =>
    obtain ⟨i, hi, rfl, HS⟩ := hrel
    by_cases hlt : i < m
    · obtain ⟨x, hx⟩ : ∃ x, vs[i]? = some x := ⟨_, List.getElem?_eq_getElem (by have := HM.out; omega)⟩
      obtain ⟨v, n⟩ := x
      obtain ⟨hn0, hn1, g, cap, hv, hgF⟩ := HL.out.pos i v n hx
      obtain ⟨gl, hgl, _⟩ := HL.out.at_ hx
      subst hgl
      have hilt : (i : Int) < (m : Int) := by omega
      have HX : Hid (vs[i]? = some (v, n)) := hx
      have HV : Hid (g ∈ F) := hgF
      subst hv
      clear hx hgF
      go_wp2
      go_loopw [4] (fun c4 wr => ∃ k : Nat, k ≤ n ∧ c4 = .int .i64 k ∧ Hid (Kp W wr F ∧ Ls wr F (.slice (some ⟨gl, 0, none⟩) m c) vs ∧ Mk wr vs i k)) (fun c4 _ => n - (intOf c4).toNat)
      case atStart => exact ⟨0, Nat.zero_le _, rfl, HS⟩
      case round =>
        obtain ⟨k, hk, rfl, HS2⟩ := hrel
        obtain ⟨s1, s2, s3⟩ := HS2.out
        obtain ⟨g', e', hcl⟩ := s2.at_ HX.out
        cases e'
        have hkn : (n : Int) ≤ 33554432 := by omega
        by_cases hlt2 : k < n
        · obtain ⟨l, hl1, hl2, _⟩ := s3 i _ n HX.out
          have hklt : (k : Int) < (n : Int) := by omega
          obtain ⟨old, q1⟩ : ∃ old, wr.cell? ⟨g, k, none⟩ = some old := by
            rw [hl2.cellAt k (by omega), List.getElem?_map, List.getElem?_eq_getElem (by omega)]; exact ⟨_, rfl⟩
          have f1 : wr.frozen? ⟨g, k, none⟩ = false := by
            obtain ⟨_, cs, hc⟩ := row_lt hl2 g rfl
            exact frozen_of hc
          have hmk := u8_mark i k
          have w1 : IntKind.i64.wrap (11 * (i : Int)) = 11 * (i : Int) := wrap_id (by omega) (by omega)
          have w2 : IntKind.i64.wrap (3 * (k : Int)) = 3 * (k : Int) := wrap_id (by omega) (by omega)
          have w3 : IntKind.i64.wrap (11 * (i : Int) + 3 * (k : Int)) = 11 * (i : Int) + 3 * (k : Int) := wrap_id (by omega) (by omega)
          have w4 : IntKind.i64.wrap (11 * (i : Int) + 3 * (k : Int) + 5) = 11 * (i : Int) + 3 * (k : Int) + 5 := wrap_id (by omega) (by omega)
          have e1 : ¬ g = gl := fun e => HlF.out gl rfl (by rw [← e]; exact HV.out)
          have e2 : ¬ gl = g := fun e => e1 e.symm
          have HNx : Hid (Kp W (wr.setCell ⟨g, k, none⟩ (.int .u8 (mark i k))) F ∧ Ls (wr.setCell ⟨g, k, none⟩ (.int .u8 (mark i k))) F (.slice (some ⟨gl, 0, none⟩) m c) vs ∧ Mk (wr.setCell ⟨g, k, none⟩ (.int .u8 (mark i k))) vs i (k + 1)) := by
            refine ⟨s1.set (.inl HV.out) k _, s2.same (fun x hx => ?_), Mk.set s2 s3 HX.out hlt2 rfl⟩
            simp [Value.ownBlock] at hx
            subst hx
            exact Below.heap_setCell _ _ _ _ (by show gl ≠ g; omega)
          clear s1 s2 s3 hl1 hl2
          go_wp2
          go_roundw
          case rel => exact ⟨k + 1, by omega, by go_num, HNx⟩
          case measure => simp [intOf]; omega
        · have e : k = n := by omega
          subst e
          have HS3 : Hid (Kp W wr F ∧ Ls wr F (.slice (some ⟨gl, 0, none⟩) m c) vs ∧ Mk wr vs (i + 1) 0) := ⟨s1, s2, Mk.next s3 HX.out⟩
          clear s1 s2 s3
          go_wp2
          go_roundw
          case rel => exact ⟨i + 1, by omega, by go_num, HS3⟩
          case measure => simp [intOf]; omega
    · have e : i = m := by omega
      subst e
      clear HMk
      obtain ⟨t1, t2, t3⟩ := HS.out
      have HG0 : Hid (Gr W wr F vs [] ∧ Ls wr F (.slice ao i c) vs ∧ wr.ownsRow W.heap.size TBs 1 (.slice none 0 0) 0 []) := ⟨⟨t1, Mk.done t3 (by have := HM.out; omega), fun j v n g _ h => by simp at h, fun j j' g g' h => by simp at h⟩, t2, World.ownsRow_nil _ _ _ _⟩
      clear t1 t2 t3 HS
      obtain ⟨m, hmi⟩ : ∃ m, m = i := ⟨_, rfl⟩
      subst hmi
      go_wp2
      go_loopw [5, 6] (fun c5 c6 wr => ∃ (i : Nat) (gs : List Value), i ≤ m ∧ c6 = .int .i64 i ∧ Hid (gs.length = i ∧ Gr W wr F vs gs ∧ Ls wr F (.slice ao m c) vs ∧ wr.ownsRow W.heap.size TBs 1 c5 i gs)) (fun _ c6 _ => m - (intOf c6).toNat)
      case atStart => exact ⟨0, [], Nat.zero_le _, rfl, ⟨rfl, HG0.out⟩⟩
      case round =>
        obtain ⟨i, gs, hi, rfl, HS⟩ := hrel
        by_cases hlt : i < m
        · obtain ⟨x, hx⟩ : ∃ x, vs[i]? = some x := ⟨_, List.getElem?_eq_getElem (by have := HM.out; omega)⟩
          obtain ⟨v, n⟩ := x
          obtain ⟨hn0, hn1, g0, cap0, hv, hgF⟩ := HL.out.pos i v n hx
          obtain ⟨s0, s1, s2, s3⟩ := HS.out
          obtain ⟨gl, hgl, hcl⟩ := s2.at_ hx
          subst hgl
          have hilt : (i : Int) < (m : Int) := by omega
          have HX : Hid (vs[i]? = some (v, n)) := hx
          have HV : Hid (v = .slice (some ⟨g0, 0, none⟩) n cap0) := hv
          obtain ⟨go, gc, hgv⟩ := own_slice s3
          subst hgv
          have HCu0 : Hid (Cu W wr gs i n 0 v v) := by
            refine ⟨by simpa [mores] using s1.mkd i v n hx, .inl ⟨g0, cap0, hv, hv⟩, fun j y hy e => ?_⟩
            have hjl := (List.getElem?_eq_some_iff.1 hy).1
            have hjv : j < vs.length := by have := HM.out; omega
            have hvj : vs[j]? = some (vs[j].1, vs[j].2) := List.getElem?_eq_getElem hjv
            obtain ⟨p1, p2, p3⟩ := s1.gr j vs[j].1 vs[j].2 y hvj hy
            rcases p3 with p3 | ⟨x, p3, p4⟩
            · exact HL.out.two i j v n _ _ hx hvj (by omega) (by rw [e, p3])
            · rw [p3, hv] at e
              simp [Value.ownBlock] at e
              have := HF.out g0 hgF
              omega
          have hcl2 : wr.cell? ⟨gl, i, none⟩ = some (.slice (some ⟨g0, 0, none⟩) n cap0) := by rw [← hv]; exact hcl
          clear hx hgF hv hcl s0 s1 s2 s3
          go_wp2
          rw [← HV.out]
          go_loopw [7, 8] (fun c7 c8 wr => ∃ k : Nat, k ≤ 70 ∧ c8 = .int .i64 k ∧ Hid (Cu W wr gs i n k v c7 ∧ Gr W wr F vs gs ∧ Ls wr F (.slice (some ⟨gl, 0, none⟩) m c) vs ∧ wr.ownsRow W.heap.size TBs 1 (.slice go i gc) i gs)) (fun _ c8 _ => 70 - (intOf c8).toNat)
          case atStart => exact ⟨0, by decide, rfl, ⟨HCu0.out, HS.out.2⟩⟩
          case round =>
            obtain ⟨k, hk, rfl, HS2⟩ := hrel
            obtain ⟨s1, s2, s3, s4⟩ := HS2.out
            obtain ⟨g, cap, hcur⟩ : ∃ g cap, u7 = .slice (some ⟨g, 0, none⟩) (n + k) cap := by
              rcases s1.pl with ⟨g', cap', _, e⟩ | ⟨y, c', e, _⟩
              · exact ⟨_, _, e⟩
              · exact ⟨_, _, e⟩
            have HCur : Hid (u7 = .slice (some ⟨g, 0, none⟩) (n + k) cap) := hcur
            by_cases hk7 : k < 70
            · have hk8 : (k : Int) < 70 := by omega
              have hmo := u8_more i k
              have w1 : IntKind.i64.wrap (100 + (i : Int)) = 100 + (i : Int) := wrap_id (by omega) (by omega)
              have w2 : IntKind.i64.wrap (100 + (i : Int) + (k : Int)) = 100 + (i : Int) + (k : Int) := wrap_id (by omega) (by omega)
              obtain ⟨i0, hi0, hz0, hz1, hz2⟩ := info_parts info5x
              have hrw := s1.row
              rw [hcur] at hrw
              have HRw : Hid (wr.ownsRow 0 5 1 (.slice (some ⟨g, 0, none⟩) (n + k) cap) (n + k) ((marks i n ++ mores i k).map bv)) := hrw
              subst hcur
              clear s1 s2 s3 s4 hrw
              go_wp2_with (at_builtin; refine wpList_append_keep _ rfl _ _ TBs rfl 5 i0 (.int .u8 0) 1 Try.underlying22 hi0 hz0 hz1 hz2 rfl g (n + k) cap ((marks i n ++ mores i k).map bv) rfl (HRw.out.alloc _) ⟨wr.heap.size, 0, none⟩ 1 1 [bv (moreB i k)] rfl rfl (World.news_of_block (heap_alloc_new wr _)) (fun u hu => by simp at hu; subst hu; rfl) (by decide) (by unfold maxLen; omega) (by omega) ?_)
              intro v' w' ho hg
              obtain ⟨s1, s2, s3, s4⟩ := HS2.out
              have hrow : w'.ownsRow 0 5 1 v' (n + k + 1) ((marks i n ++ mores i k).map bv ++ [bv (moreB i k)]) := by rw [List.map_append, List.append_assoc]; exact ho
              have hg' : (v' = .slice (some ⟨g, 0, none⟩) (n + k + 1) cap ∧ (wr.alloc (.cells #[.int .u8 (moreB i k)] 5)).grownBy w' (some g)) ∨ ∃ y c', v' = .slice (some ⟨y, 0, none⟩) (n + k + 1) c' ∧ (wr.alloc (.cells #[.int .u8 (moreB i k)] 5)).heap.size ≤ y ∧ (wr.alloc (.cells #[.int .u8 (moreB i k)] 5)).grownBy w' none := by
                rcases hg with h1 | ⟨y, ⟨c', e⟩, h2, h3⟩
                · exact .inl h1
                · exact .inr ⟨y, c', e, by rw [World.size_alloc]; exact h2, h3⟩
              have hkeep : ∀ x, x < wr.heap.size → x ≠ g → w'.heap[x]? = wr.heap[x]? := fun x hx hne => by
                rcases hg' with ⟨_, hg⟩ | ⟨y, c', _, _, hg⟩
                · exact (hg.block x (by rw [World.size_alloc]; omega) (by simp; exact hne)).trans (Below.heap_alloc _ _ _ hx)
                · exact (hg.block x (by rw [World.size_alloc]; omega) (by simp)).trans (Below.heap_alloc _ _ _ hx)
              have hgr := Gr.grow HL.out HF.out s2 HX.out (by rw [HS.out.1]; exact Nat.le_refl _) s1 rfl hrow hg'
              have HNx : Hid (Cu W w' gs i n (k + 1) v v' ∧ Gr W w' F vs gs ∧ Ls w' F (.slice (some ⟨gl, 0, none⟩) m c) vs ∧ w'.ownsRow W.heap.size TBs 1 (.slice go i gc) i gs) :=
                ⟨hgr.2, hgr.1, s3.same (fun x hx => hkeep x (row_lt s3.row x hx).1 (fun e => own_types s3.row HRw.out (by decide) hx (by rw [e]; rfl))), ownsRow_block s4 (fun x hx => hkeep x (row_lt s4 x hx).1 (fun e => own_types s4 HRw.out (by decide) hx (by rw [e]; rfl)))⟩
              clear ho hg hrow hg' hkeep hgr s1 s2 s3 s4
              go_wp2
              go_roundw
              case rel => exact ⟨k + 1, by omega, by go_num, HNx⟩
              case measure => simp [intOf]; omega
            · have e : k = 70 := by omega
              subst e
              obtain ⟨i0, hi0, hz0, hz1, hz2⟩ := info_parts infoBs
              have HR4 : Hid (wr.ownsRow W.heap.size TBs 1 (.slice go i gc) i gs) := s4
              have hWs := s2.kp.size
              subst hcur
              clear s1 s2 s3 s4
              go_wp2_with (at_builtin; refine wpList_append_own _ rfl _ _ TBss rfl W.heap.size 22 i0 _ 1 24 Try.underlying122 hi0 hz0 hz1 hz2 rfl (by decide) (.slice go i gc) i gs rfl (HR4.out.alloc _) ⟨wr.heap.size, 0, none⟩ 1 1 [.slice (some ⟨g, 0, none⟩) (n + 70) cap] rfl rfl (World.news_of_block (heap_alloc_new wr _)) (fun u hu => by simp at hu; subst hu; rfl) (by unfold maxLen; omega) (by omega) (by rw [World.size_alloc]; omega) ?_)
              intro v2 w2 ho2 hg2 _
              obtain ⟨s1, s2, s3, s4⟩ := HS2.out
              have hkeep : ∀ x, x < wr.heap.size → (Value.slice go i gc).ownBlock ≠ some x → w2.heap[x]? = wr.heap[x]? := fun x hx hne => (hg2.block x (by rw [World.size_alloc]; omega) (fun e => hne e.symm)).trans (Below.heap_alloc _ _ _ hx)
              have hkp : Kp W w2 F := Kp.grown (s2.kp.trans (Kp.of_below ((Below.refl _ wr).alloc (Nat.le_refl _) _) []) (by simp)) hg2 (fun x e => .inr (HR4.out.lt x e).1)
              have hpush := Gr.push HL.out s2 HX.out HS.out.1 s1 hkp (fun x cs hx => hkeep x (Array.getElem?_eq_some_iff.1 hx).1 (fun e => by
                obtain ⟨_, cs', hc'⟩ := row_lt s4 x e
                rw [hx] at hc'
                simp at hc'
                exact absurd hc'.2 (by decide)))
              have HNx : Hid ((gs ++ [Value.slice (some ⟨g, 0, none⟩) (n + 70) cap]).length = i + 1 ∧ Gr W w2 F vs (gs ++ [Value.slice (some ⟨g, 0, none⟩) (n + 70) cap]) ∧ Ls w2 F (.slice (some ⟨gl, 0, none⟩) m c) vs ∧ w2.ownsRow W.heap.size TBs 1 v2 (i + 1) (gs ++ [Value.slice (some ⟨g, 0, none⟩) (n + 70) cap])) := by
                refine ⟨by simp [HS.out.1], hpush, s3.same (fun x hx => hkeep x (row_lt s3.row x hx).1 (fun e => ?_)), ho2⟩
                have h1 := (HR4.out.lt x e).1
                have h2 := (row_lt HL.out.row x hx).1
                omega
              clear ho2 hg2 hkeep hkp hpush s1 s2 s3 s4
              go_wp2
              go_roundw
              case rel => exact ⟨i + 1, gs ++ [_], by omega, by go_num, HNx⟩
              case measure => simp [intOf]; omega
        · have e : i = m := by omega
          subst e
          obtain ⟨t0, t1, t2, t3⟩ := HS.out
          obtain ⟨go, gc, hgv⟩ := own_slice t3
          subst hgv
          obtain ⟨W3, hW3⟩ : ∃ W3, W3 = wr := ⟨_, rfl⟩
          subst hW3
          have HT : Hid (gs.length = i ∧ Gr W W3 F vs gs ∧ Ls W3 F (.slice ao i c) vs ∧ W3.ownsRow W.heap.size TBs 1 (.slice go i gc) i gs) := ⟨t0, t1, t2, t3⟩
          clear t0 t1 t2 t3 HS HG0
          obtain ⟨m, hmi⟩ : ∃ m, m = i := ⟨_, rfl⟩
          subst hmi
          go_wp2
          go_loopw [9] (fun c9 wr => ∃ i : Nat, i ≤ m ∧ c9 = .int .i64 i ∧ Hid (Below W3.heap.size W3 wr)) (fun c9 _ => m - (intOf c9).toNat)
          case atStart => exact ⟨0, Nat.zero_le _, rfl, Below.refl _ _⟩
          case round =>
            obtain ⟨i, hi, rfl, HB⟩ := hrel
            by_cases hlt : i < m
            · obtain ⟨x, hx⟩ : ∃ x, vs[i]? = some x := ⟨_, List.getElem?_eq_getElem (by have := HM.out; omega)⟩
              obtain ⟨v, n⟩ := x
              obtain ⟨hn0, hn1, g0, cap0, hv, hgF⟩ := HL.out.pos i v n hx
              obtain ⟨gl, hgl, hcl⟩ := HT.out.2.2.1.at_ hx
              subst hgl
              have hilt : (i : Int) < (m : Int) := by omega
              have HX : Hid (vs[i]? = some (v, n)) := hx
              have HV : Hid (v = .slice (some ⟨g0, 0, none⟩) n cap0) := hv
              have HC : Hid (∀ wr, Below W3.heap.size W3 wr → wr.cell? ⟨gl, i, none⟩ = some (.slice (some ⟨g0, 0, none⟩) n cap0) ∧ ∀ t, t < n → wr.cell? ⟨g0, t, none⟩ = some (.int .u8 (mark i t))) := fun wr hB => by
                refine ⟨cell_later hB (by rw [← hv]; exact hcl), fun t ht => ?_⟩
                have h1 := HT.out.2.1.mkd i v n hx
                rw [hv] at h1
                exact cell_later hB ((h1.cellAt t (by omega)).trans (marks_at ht))
              obtain ⟨y, hy⟩ : ∃ y, gs[i]? = some y := ⟨_, List.getElem?_eq_getElem (by have := HT.out.1; omega)⟩
              obtain ⟨⟨gy, cy, hyv⟩, hyr, _⟩ := HT.out.2.1.gr i v n y hx hy
              obtain ⟨gg, hgg, hgc⟩ : ∃ gg, go = some ⟨gg, 0, none⟩ ∧ W3.cell? ⟨gg, i, none⟩ = some y := by
                have hr := HT.out.2.2.2
                rcases hr.2 with ⟨e, h0⟩ | ⟨gg, cap', cur, e, _⟩
                · omega
                · simp at e
                  obtain ⟨e1, e2⟩ := e
                  subst e1
                  refine ⟨gg, rfl, ?_⟩
                  rw [hr.cellAt i (by omega), hy]
              subst hgg
              have HC2 : Hid (∀ wr, Below W3.heap.size W3 wr → wr.cell? ⟨gg, i, none⟩ = some (.slice (some ⟨gy, 0, none⟩) (n + 70) cy) ∧ ∀ t, t < 70 → wr.cell? ⟨gy, n + t, none⟩ = some (.int .u8 (moreB i t))) := fun wr hB => by
                refine ⟨cell_later hB (by rw [← hyv]; exact hgc), fun t ht => ?_⟩
                rw [hyv] at hyr
                exact cell_later hB ((hyr.cellAt (n + t) (by omega)).trans (mores_at ht))
              have hkn : (n : Int) ≤ 33554432 := by omega
              clear hx hgF hv hcl hy hyv hyr hgc
              go_wp2
              go_loopw [10] (fun c10 wr => ∃ k : Nat, k ≤ n ∧ c10 = .int .i64 k ∧ Hid (Below W3.heap.size W3 wr)) (fun c10 _ => n - (intOf c10).toNat)
              case atStart => exact ⟨0, Nat.zero_le _, rfl, HB⟩
              case round =>
                obtain ⟨k, hk, rfl, HB2⟩ := hrel
                obtain ⟨y1, y2⟩ := HC.out wr HB2.out
                by_cases hlt2 : k < n
                · have hklt : (k : Int) < (n : Int) := by omega
                  have yk := y2 k hlt2
                  have hmk := u8_mark i k
                  have w1 : IntKind.i64.wrap (11 * (i : Int)) = 11 * (i : Int) := wrap_id (by omega) (by omega)
                  have w2 : IntKind.i64.wrap (3 * (k : Int)) = 3 * (k : Int) := wrap_id (by omega) (by omega)
                  have w3 : IntKind.i64.wrap (11 * (i : Int) + 3 * (k : Int)) = 11 * (i : Int) + 3 * (k : Int) := wrap_id (by omega) (by omega)
                  have w4 : IntKind.i64.wrap (11 * (i : Int) + 3 * (k : Int) + 5) = 11 * (i : Int) + 3 * (k : Int) + 5 := wrap_id (by omega) (by omega)
                  clear y2
                  go_wp2
                  go_roundw
                  case rel => exact ⟨k + 1, by omega, by go_num, HB2⟩
                  case measure => simp [intOf]; omega
                · have hkl : ¬ (k : Int) < (n : Int) := by omega
                  clear y2
                  go_wp2
                  go_loopw [11] (fun c11 wr => ∃ k : Nat, k ≤ 70 ∧ c11 = .int .i64 k ∧ Hid (Below W3.heap.size W3 wr)) (fun c11 _ => 70 - (intOf c11).toNat)
                  case atStart => exact ⟨0, by decide, rfl, HB2⟩
                  case round =>
                    obtain ⟨t, ht, rfl, HB3⟩ := hrel
                    obtain ⟨y1', _⟩ := HC.out wr HB3.out
                    obtain ⟨z1, z2⟩ := HC2.out wr HB3.out
                    by_cases ht7 : t < 70
                    · have ht8 : (t : Int) < 70 := by omega
                      have zk := z2 t ht7
                      have hmo := u8_more i t
                      have w1 : IntKind.i64.wrap (100 + (i : Int)) = 100 + (i : Int) := wrap_id (by omega) (by omega)
                      have w2 : IntKind.i64.wrap (100 + (i : Int) + (t : Int)) = 100 + (i : Int) + (t : Int) := wrap_id (by omega) (by omega)
                      have w3 : IntKind.i64.wrap ((n : Int) + (t : Int)) = (n : Int) + (t : Int) := wrap_id (by omega) (by omega)
                      have n1 : (0 : Int) ≤ (n : Int) + (t : Int) := by omega
                      have n2 : (n : Int) + (t : Int) < ((n + 70 : Nat) : Int) := by omega
                      have n3 : (n : Int) + (t : Int) < (n : Int) + 70 := by omega
                      have n4 : ((n : Int) + (t : Int)).toNat = n + t := by omega
                      clear z2
                      go_wp2
                      go_quiet (fail)
                      go_wp2
                      go_roundw
                      case rel => exact ⟨t + 1, by omega, by go_num, HB3.out.trans ((below_drewN wr _).mono HB3.out.size)⟩
                      case measure => simp [intOf]; omega
                    · have ht8 : ¬ (t : Int) < 70 := by omega
                      go_wp2
                      go_roundw
                      case rel => exact ⟨i + 1, by omega, by go_num, HB3⟩
                      case measure => simp [intOf]; omega
            · have e : i = m := by omega
              subst e
              have HK : Hid (Kp W wr F) := HT.out.2.1.kp.trans (Kp.of_below HB.out []) (by simp)
              go_wp2
              go_ret
              exact ⟨rfl, HK.out⟩
end Go.Proofs.Ythmonfmpgjbhmaa.K
