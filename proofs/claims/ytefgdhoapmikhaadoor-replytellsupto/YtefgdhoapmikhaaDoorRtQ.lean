import Derived.Test.YtefgdhoapmikhaaDoorRpZ
import Derived.Test.YtefgdhoapmikhaaDoorRpV
namespace Go.Proofs.YtefgdhoapmikhaaDoor
open Go.RowKit
set_option linter.unusedVariables false
set_option linter.unusedSimpArgs false
set_option maxRecDepth 100000
/-- the law while it makes pieces lie end to end: the boxes of the request and of the outcome, the row that is wanted, the pieces' row, and their data -/
structure Tl (w W : World) (R O : Array Value) (wv : Value) (wl : List Nat) (pv : Value) (P : List Pc) (DL : List (Option Addr × Nat × List Nat)) : Prop where
  bel : Below w.heap.size w W
  size : w.heap.size + 1 + 1 ≤ W.heap.size
  rb : W.heap[w.heap.size]? = some (.cells R 29 (0, 0))
  ob : W.heap[w.heap.size + 1]? = some (.cells O 34 (0, 0))
  pw : W.ownsRow w.heap.size 62 4 pv P.length (P.flatMap fun p => p.cells.toList)
  ww : W.ownsRow w.heap.size 5 1 wv wl.length (wl.map bv)
  wlt : ∀ x ∈ wl, x < 256
  dat : ∀ q ∈ DL, W.ownsRow w.heap.size 5 1 (.slice q.1 q.2.2.length q.2.1) q.2.2.length (q.2.2.map bv) ∧ (∀ x ∈ q.2.2, x < 256) ∧ ∀ g, (Value.slice q.1 q.2.2.length q.2.1).ownBlock = some g → wv.ownBlock ≠ some g
theorem Tl.later {w W W' : World} {R O : Array Value} {wv pv : Value} {wl : List Nat} {P : List Pc} {DL : List (Option Addr × Nat × List Nat)} (h : Tl w W R O wv wl pv P DL) (k : Below W.heap.size W W') : Tl w W' R O wv wl pv P DL :=
  ⟨h.bel.trans (k.mono h.bel.size), Nat.le_trans h.size k.size, box_later h.rb k, box_later h.ob k, owns_sameK h.pw (fun g hg => k.block g (owns_ltK h.pw g hg).1), owns_sameK h.ww (fun g hg => k.block g (owns_ltK h.ww g hg).1), h.wlt, fun q hq => ⟨owns_sameK (h.dat q hq).1 (fun g hg => k.block g (owns_ltK (h.dat q hq).1 g hg).1), (h.dat q hq).2⟩⟩
theorem apartT {W : World} {b t e size n B : Nat} {A : Array Value} {v : Value} {xs : List Value} (hb : W.heap[b]? = some (.cells A t (0, 0))) (ho : W.ownsRow B e size v n xs) (hne : t ≠ e) (g : Nat) (hg : v.ownBlock = some g) : g ≠ b := by
  rintro rfl
  obtain ⟨_, _, cur, hc⟩ := owns_ltK ho g hg
  rw [hb] at hc
  simp at hc
  exact hne hc.2
theorem apartB {W : World} {b c t e : Nat} {A C : Array Value} (hb : W.heap[b]? = some (.cells A t (0, 0))) (hc : W.heap[c]? = some (.cells C e (0, 0))) (hne : t ≠ e) : c ≠ b := by
  rintro rfl
  rw [hb] at hc
  simp at hc
  exact hne hc.2
/-- a store into a piece's own box -/
theorem Tl.other {w W W' : World} {R O A : Array Value} {b : Nat} {wv pv : Value} {wl : List Nat} {P : List Pc} {DL : List (Option Addr × Nat × List Nat)} (h : Tl w W R O wv wl pv P DL) (hb : W.heap[b]? = some (.cells A 62 (0, 0))) (hp : pv.ownBlock ≠ some b) (hB : w.heap.size ≤ b) (k : KeptIn (fun g => g = b) W W') : Tl w W' R O wv wl pv P DL :=
  ⟨h.bel.trans (k.below h.bel.size (fun g hg e => by subst e; omega)), Nat.le_trans h.size k.size,
   by rw [k.block _ (block_lt h.rb) (apartB hb h.rb (by decide))]; exact h.rb, by rw [k.block _ (block_lt h.ob) (apartB hb h.ob (by decide))]; exact h.ob,
   owns_sameK h.pw (fun g hg => k.block g (owns_ltK h.pw g hg).1 (fun e => hp (by rw [← e]; exact hg))), owns_sameK h.ww (fun g hg => k.block g (owns_ltK h.ww g hg).1 (apartT hb h.ww (by decide) g hg)), h.wlt,
   fun q hq => ⟨owns_sameK (h.dat q hq).1 (fun g hg => k.block g (owns_ltK (h.dat q hq).1 g hg).1 (apartT hb (h.dat q hq).1 (by decide) g hg)), (h.dat q hq).2⟩⟩
/-- a store into the request's box -/
theorem Tl.setR {w W W' : World} {R R' O : Array Value} {wv pv : Value} {wl : List Nat} {P : List Pc} {DL : List (Option Addr × Nat × List Nat)} (h : Tl w W R O wv wl pv P DL) (hn : W'.heap[w.heap.size]? = some (.cells R' 29 (0, 0))) (k : KeptIn (fun g => g = w.heap.size) W W') : Tl w W' R' O wv wl pv P DL :=
  ⟨h.bel.trans (k.below h.bel.size (fun g hg e => by subst e; omega)), Nat.le_trans h.size k.size,
   hn, by rw [k.block _ (block_lt h.ob) (apartB h.rb h.ob (by decide))]; exact h.ob,
   owns_sameK h.pw (fun g hg => k.block g (owns_ltK h.pw g hg).1 (apartT h.rb h.pw (by decide) g hg)), owns_sameK h.ww (fun g hg => k.block g (owns_ltK h.ww g hg).1 (apartT h.rb h.ww (by decide) g hg)), h.wlt,
   fun q hq => ⟨owns_sameK (h.dat q hq).1 (fun g hg => k.block g (owns_ltK (h.dat q hq).1 g hg).1 (apartT h.rb (h.dat q hq).1 (by decide) g hg)), (h.dat q hq).2⟩⟩
/-- a store into the outcome's box -/
theorem Tl.setO {w W W' : World} {R O' O : Array Value} {wv pv : Value} {wl : List Nat} {P : List Pc} {DL : List (Option Addr × Nat × List Nat)} (h : Tl w W R O wv wl pv P DL) (hn : W'.heap[w.heap.size + 1]? = some (.cells O' 34 (0, 0))) (k : KeptIn (fun g => g = w.heap.size + 1) W W') : Tl w W' R O' wv wl pv P DL :=
  ⟨h.bel.trans (k.below h.bel.size (fun g hg e => by subst e; omega)), Nat.le_trans h.size k.size,
   by rw [k.block _ (block_lt h.rb) (apartB h.ob h.rb (by decide))]; exact h.rb, hn,
   owns_sameK h.pw (fun g hg => k.block g (owns_ltK h.pw g hg).1 (apartT h.ob h.pw (by decide) g hg)), owns_sameK h.ww (fun g hg => k.block g (owns_ltK h.ww g hg).1 (apartT h.ob h.ww (by decide) g hg)), h.wlt,
   fun q hq => ⟨owns_sameK (h.dat q hq).1 (fun g hg => k.block g (owns_ltK (h.dat q hq).1 g hg).1 (apartT h.ob (h.dat q hq).1 (by decide) g hg)), (h.dat q hq).2⟩⟩
/-- what is wanted grows -/
theorem Tl.grow {w W W' : World} {R O : Array Value} {wv wv' pv : Value} {wl m : List Nat} {P : List Pc} {DL : List (Option Addr × Nat × List Nat)} (h : Tl w W R O wv wl pv P DL) (hm : ∀ x ∈ m, x < 256)
    (ho : W'.ownsRow w.heap.size 5 1 wv' (wl ++ m).length ((wl ++ m).map bv)) (hg : W.grownBy W' wv.ownBlock) (hf : Fresh W wv wv') : Tl w W' R O wv' (wl ++ m) pv P DL :=
  ⟨h.bel.grown hg h.bel.size (fun k hk => (owns_ltK h.ww k hk).2.1), Nat.le_trans h.size hg.size, boxT h.rb h.ww (by decide) hg, boxT h.ob h.ww (by decide) hg,
   owns_sameK h.pw (fun g hg' => hg.block g (owns_ltK h.pw g hg').1 (fun e => by
     obtain ⟨_, _, cur, hc⟩ := owns_ltK h.pw g hg'
     exact apartT hc h.ww (by decide) g e.symm rfl)), ho, fun x hx => by rcases List.mem_append.1 hx with h1 | h1; exact h.wlt x h1; exact hm x h1,
   fun q hq => ⟨owns_sameK (h.dat q hq).1 (fun g hg' => hg.block g (owns_ltK (h.dat q hq).1 g hg').1 (fun e => (h.dat q hq).2.2 g hg' e.symm)), (h.dat q hq).2.1, fun g hg' e => by
     rcases hf with h1 | ⟨g', h1, h2⟩
     · exact (h.dat q hq).2.2 g hg' (h1 ▸ e)
     · rw [h1] at e
       have := (owns_ltK (h.dat q hq).1 g hg').1
       simp at e
       omega⟩⟩
/-- data that were made behind what is wanted -/
theorem Tl.data {w W W' : World} {R O : Array Value} {wv pv : Value} {wl : List Nat} {P : List Pc} {DL : List (Option Addr × Nat × List Nat)} (h : Tl w W R O wv wl pv P DL) (k : Below W.heap.size W W') (ao : Option Addr) (cap : Nat) (m : List Nat) (hm : ∀ x ∈ m, x < 256) (ho : W'.ownsRow W.heap.size 5 1 (.slice ao m.length cap) m.length (m.map bv)) : Tl w W' R O wv wl pv P (DL ++ [(ao, cap, m)]) := by
  have h1 := h.later k
  refine ⟨h1.bel, h1.size, h1.rb, h1.ob, h1.pw, h1.ww, h1.wlt, fun q hq => ?_⟩
  rcases List.mem_append.1 hq with hq | hq
  · exact h1.dat q hq
  · obtain rfl : q = (ao, cap, m) := by simpa using hq
    refine ⟨owns_mono ho h.bel.size, hm, fun g hg e => ?_⟩
    have h2 := (owns_ltK ho g hg).2.1
    have h3 := (owns_ltK h.ww g e).1
    omega
theorem Tl.fewer {w W : World} {R O : Array Value} {wv pv : Value} {wl : List Nat} {P : List Pc} {DL DL' : List (Option Addr × Nat × List Nat)} (h : Tl w W R O wv wl pv P DL) (hs : ∀ q ∈ DL', q ∈ DL) : Tl w W R O wv wl pv P DL' :=
  ⟨h.bel, h.size, h.rb, h.ob, h.pw, h.ww, h.wlt, fun q hq => h.dat q (hs q hq)⟩
theorem Tl.more {w W : World} {R O : Array Value} {wv pv : Value} {wl : List Nat} {P : List Pc} {DL : List (Option Addr × Nat × List Nat)} (h : Tl w W R O wv wl pv P DL) : Tl w W R O wv wl pv P (DL ++ [(none, 0, [])]) := by
  refine ⟨h.bel, h.size, h.rb, h.ob, h.pw, h.ww, h.wlt, fun q hq => ?_⟩
  rcases List.mem_append.1 hq with hq | hq
  · exact h.dat q hq
  · obtain rfl : q = (none, 0, []) := by simpa using hq
    exact ⟨World.ownsRow_nil _ _ _ _, by simp, fun g hg => by cases hg⟩
/-- one more piece -/
theorem Tl.push {w W W' : World} {R O : Array Value} {wv pv pv' : Value} {wl : List Nat} {P : List Pc} {DL : List (Option Addr × Nat × List Nat)} (h : Tl w W R O wv wl pv P DL) (p : Pc)
    (ho : W'.ownsRow w.heap.size 62 4 pv' (P.length + 1) ((P.flatMap fun p => p.cells.toList) ++ p.cells.toList)) (hg : W.grownBy W' pv.ownBlock) : Tl w W' R O wv wl pv' (P ++ [p]) DL :=
  ⟨h.bel.grown hg h.bel.size (fun k hk => (owns_ltK h.pw k hk).2.1), Nat.le_trans h.size hg.size, boxT h.rb h.pw (by decide) hg, boxT h.ob h.pw (by decide) hg,
   by simpa [List.flatMap_append] using ho,
   owns_sameK h.ww (fun g hg' => hg.block g (owns_ltK h.ww g hg').1 (fun e => by
     obtain ⟨_, _, cur, hc⟩ := owns_ltK h.ww g hg'
     exact apartT hc h.pw (by decide) g e.symm rfl)), h.wlt,
   fun q hq => ⟨owns_sameK (h.dat q hq).1 (fun g hg' => hg.block g (owns_ltK (h.dat q hq).1 g hg').1 (fun e => by
     obtain ⟨_, _, cur, hc⟩ := owns_ltK (h.dat q hq).1 g hg'
     exact apartT hc h.pw (by decide) g e.symm rfl)), (h.dat q hq).2⟩⟩
theorem pcs_at : ∀ (l : List Pc) (t j : Nat) (ht : t < l.length), j < 4 → (l.flatMap fun p => p.cells.toList)[t * 4 + j]? = (l[t].cells)[j]? := by
  intro l
  induction l with
  | nil => intro t j h _; simp at h
  | cons x l ih =>
    intro t j h hj
    rcases t with _ | t
    · rw [List.flatMap_cons, List.getElem?_append_left (by simp [Pc.cells]; omega)]; simp
    · rw [List.flatMap_cons, List.getElem?_append_right (by simp [Pc.cells]; omega)]
      have := ih t j (by simpa using h) hj
      simp only [List.getElem_cons_succ]
      rw [← this]; congr 1; simp [Pc.cells]; omega
/-- pieces in a row of one's own are pieces in memory -/
theorem prow_own {W : World} {B : Nat} {po : Option Addr} {pn pc : Nat} {P : List Pc} (h : W.ownsRow B 62 4 (.slice po pn pc) P.length (P.flatMap fun p => p.cells.toList)) (hok : ∀ p ∈ P, p.ok) (hl : P.length ≤ 1048576) : PRow W po P := by
  refine ⟨hok, hl, fun hne => ?_⟩
  rcases h.2 with ⟨_, h0⟩ | ⟨g, cap, cur, hv, hb, hc, hr⟩
  · exact absurd (List.eq_nil_of_length_eq_zero h0) hne
  · simp at hv
    obtain ⟨rfl, _, _⟩ := hv
    refine ⟨g, 0, rfl, fun k hk j hj => ?_⟩
    rw [Nat.zero_add, blk_at hc, ← pcs_at P k j hk hj, ← hr.2.2.2, List.getElem?_take, if_pos (by omega), Array.getElem?_toList]
theorem brow_uniq {W : World} {ao : Option Addr} {cap cap' : Nat} {l m : List Nat} (h : BRow W ao cap l) (h' : BRow W ao cap' m) (hl : l.length = m.length) : l = m := by
  rcases l with _ | ⟨x, l⟩
  · exact (List.eq_nil_of_length_eq_zero hl.symm).symm
  · obtain ⟨b, off, e, hc⟩ := h.at_ (by simp)
    obtain ⟨b', off', e', hc'⟩ := h'.at_ (by rintro rfl; simp at hl)
    rw [e] at e'
    cases e'
    apply List.ext_getElem hl
    intro k h1 h2
    have q1 := hc k h1
    rw [hc' k h2] at q1
    simp [bv] at q1
    omega
theorem dOf {W : World} {Q : List (Pc × List Nat)} (h : ∀ q ∈ Q, q.2.length = q.1.n ∧ BRow W q.1.ao q.1.cap q.2) : ∃ D : Pc → List Nat, ∀ q ∈ Q, D q.1 = q.2 := by
  classical
  refine ⟨fun p => if h : ∃ m : List Nat, m.length = p.n ∧ BRow W p.ao p.cap m then h.choose else [], fun q hq => ?_⟩
  have hex : ∃ m : List Nat, m.length = q.1.n ∧ BRow W q.1.ao q.1.cap m := ⟨q.2, h q hq⟩
  show (if h : ∃ m : List Nat, m.length = q.1.n ∧ BRow W q.1.ao q.1.cap m then h.choose else []) = q.2
  rw [dif_pos hex]
  exact brow_uniq hex.choose_spec.2 (h q hq).2 (hex.choose_spec.1.trans (h q hq).1.symm)
/-- what pieces with their data say -/
def qL1 (q : Pc × List Nat) : List Nat := if q.1.hole = true then List.replicate q.1.ln 0 else q.2
def rowQ (Q : List (Pc × List Nat)) : List Nat := Q.flatMap qL1
theorem rowQ_eq {D : Pc → List Nat} {Q : List (Pc × List Nat)} (h : ∀ q ∈ Q, D q.1 = q.2) : rowL D (Q.map (·.1)) = rowQ Q := by
  induction Q with
  | nil => rfl
  | cons q Q ih =>
    have h1 := ih (fun r hr => h r (List.mem_cons_of_mem _ hr))
    simp only [rowL, rowQ, List.map_cons, List.flatMap_cons] at h1 ⊢
    rw [h1]
    simp [pcL, qL1, h q (List.mem_cons_self ..)]
theorem pieB_snoc (off : Nat) : ∀ (P : List Pc) (p : Pc) (s len : Nat), pieB off len s P = true → pcB p = true → p.off = off + len → pieB off (len + p.ln) s (P ++ [p]) = true
  | [], p, s, len, h, hp, ho => by
    simp [pieB] at h
    subst h
    simp [pieB, hp, ho]
  | q :: P, p, s, len, h, hp, ho => by
    simp only [pieB, List.cons_append, Bool.and_eq_true, decide_eq_true_eq] at h ⊢
    obtain ⟨h1, h2, h3, h4⟩ := h
    exact ⟨h1, h2, by omega, pieB_snoc off P p _ len h4 hp ho⟩
end Go.Proofs.YtefgdhoapmikhaaDoor
