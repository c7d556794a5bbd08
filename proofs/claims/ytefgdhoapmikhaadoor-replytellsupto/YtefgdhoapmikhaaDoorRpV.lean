import Derived.Test.YtefgdhoapmikhaaDoorRpX
import Derived.Test.YtefgdhoapmikhaaDoorJF
import Derived.Deep.AppendLies
namespace Go.Proofs.YtefgdhoapmikhaaDoor
open Go.RowKit
set_option linter.unusedVariables false
set_option linter.unusedSimpArgs false
set_option maxRecDepth 100000
/-- a chunk, its data as bytes -/
structure Ck where
  fl : Nat
  ty : Nat
  ck : Nat
  off : Nat
  ao : Option Addr
  cap : Nat
  d : List Nat
def Ck.cells (c : Ck) : List Value := [.int .u16 (c.fl : Int), .int .u16 (c.ty : Int), .int .u64 (c.ck : Int), .int .u64 (c.off : Int), .slice c.ao c.d.length c.cap]
theorem Ck.len (c : Ck) : c.cells.length = 5 := rfl
theorem cks_len (L : List Ck) : (L.flatMap Ck.cells).length = L.length * 5 := by
  induction L with
  | nil => rfl
  | cons c L ih => simp [List.flatMap_cons, ih, Ck.len]; omega
/-- chunks in a row of one's own, their data in rows of one's own -/
structure Cks (w W : World) (v : Value) (L : List Ck) : Prop where
  own : W.ownsRow w.heap.size 70 5 v L.length (L.flatMap Ck.cells)
  dat : ∀ c ∈ L, W.ownsRow w.heap.size 5 1 (.slice c.ao c.d.length c.cap) c.d.length (c.d.map bv) ∧ ∀ x ∈ c.d, x < 256
theorem owns_ltK {w : World} {base e size n : Nat} {v : Value} {xs : List Value} (h : w.ownsRow base e size v n xs) (g : Nat) (hg : v.ownBlock = some g) : g < w.heap.size ∧ base ≤ g ∧ ∃ cur, w.heap[g]? = some (.cells cur e (0, 0)) := by
  rcases h.2 with ⟨rfl, _⟩ | ⟨g', cap, cur, rfl, hb, hc, _⟩
  · cases hg
  · obtain rfl : g' = g := by simpa [Value.ownBlock] using hg
    exact ⟨block_lt hc, hb, cur, hc⟩
theorem owns_sameK {w w' : World} {base e size n : Nat} {v : Value} {xs : List Value} (h : w.ownsRow base e size v n xs) (hs : ∀ g, v.ownBlock = some g → w'.heap[g]? = w.heap[g]?) : w'.ownsRow base e size v n xs := by
  refine ⟨h.1, ?_⟩
  rcases h.2 with h0 | ⟨g, cap, cur, rfl, hb, hc, hr⟩
  · exact Or.inl h0
  · exact Or.inr ⟨g, cap, cur, rfl, hb, by rw [hs g rfl]; exact hc, hr⟩
theorem Cks.later {w W W' : World} {v : Value} {L : List Ck} (h : Cks w W v L) (k : Below W.heap.size W W') : Cks w W' v L :=
  ⟨owns_sameK h.own (fun g hg => k.block g (owns_ltK h.own g hg).1), fun c hc => ⟨owns_same (h.dat c hc).1 (fun g hg => k.block g (owns_lt (h.dat c hc).1 g hg).1), (h.dat c hc).2⟩⟩
theorem Cks.nil (w : World) : Cks w w (.slice none 0 0) [] := ⟨World.ownsRow_nil _ _ _ _, by simp⟩
/-- one more chunk -/
theorem Cks.push {w W W' : World} {v v' : Value} {L : List Ck} (h : Cks w W v L) (c : Ck) (hd : W.ownsRow w.heap.size 5 1 (.slice c.ao c.d.length c.cap) c.d.length (c.d.map bv)) (hl : ∀ x ∈ c.d, x < 256)
    (ho : W'.ownsRow w.heap.size 70 5 v' (L.length + 1) (L.flatMap Ck.cells ++ c.cells)) (hg : W.grownBy W' v.ownBlock) : Cks w W' v' (L ++ [c]) := by
  have hne : ∀ (ao : Option Addr) (cap : Nat) (m : List Nat), W.ownsRow w.heap.size 5 1 (.slice ao m.length cap) m.length (m.map bv) → W'.ownsRow w.heap.size 5 1 (.slice ao m.length cap) m.length (m.map bv) := fun ao cap m hm =>
    owns_same hm (fun g hg' => hg.block g (owns_lt hm g hg').1 (fun e => by
      obtain ⟨cur, h1⟩ := owns_type hm g hg'
      obtain ⟨_, _, cur', h2⟩ := owns_ltK h.own g e.symm
      rw [h1] at h2
      simp at h2))
  refine ⟨by simpa [List.flatMap_append] using ho, fun x hx => ?_⟩
  rcases List.mem_append.1 hx with hx | hx
  · exact ⟨hne _ _ _ (h.dat x hx).1, (h.dat x hx).2⟩
  · obtain rfl : x = c := by simpa using hx
    exact ⟨hne _ _ _ hd, hl⟩
theorem Bx1.grownT {w W W' : World} {A : Array Value} {tA e size n : Nat} {v : Value} {xs : List Value} (h : Bx1 w W A tA) (ho : W.ownsRow w.heap.size e size v n xs) (hne : tA ≠ e) (hg : W.grownBy W' v.ownBlock) : Bx1 w W' A tA := by
  refine ⟨h.bel.grown hg h.bel.size (fun k hk => (owns_ltK ho k hk).2.1), ?_, Nat.le_trans h.size hg.size⟩
  rw [hg.block _ (by have := h.size; omega) (fun hx => ?_)]
  · exact h.a
  · obtain ⟨_, _, cur, hc⟩ := owns_ltK ho _ hx.symm
    rw [h.a] at hc
    simp at hc
    exact hne hc.2
/-- the cells of one chunk in a new block -/
theorem news5 (W : World) (c : Ck) (t : TypeId) : ∀ j u, c.cells[j]? = some u → (W.alloc (.cells c.cells.toArray t)).cell? ((⟨W.heap.size, 0, none⟩ : Addr).add j) = some u := by
  intro j u hj
  rw [add_plain, Nat.zero_add, blk_at (heap_new W _)]
  simpa using hj
theorem ck_one (c : Ck) : ∀ u ∈ c.cells, u.oneCell' = true := by
  intro u hu
  simp [Ck.cells] at hu
  rcases hu with rfl | rfl | rfl | rfl | rfl <;> rfl
/-- what an append of one chunk leaves -/
theorem push_all {w W W' : World} {A : Array Value} {tA : TypeId} {v v' : Value} {L : List Ck} {k : Nat} (hb : Bx1 w W A tA) (hne : tA ≠ 70) (h : Cks w W v L) (hk : L.length = k) (c : Ck) (o : Obj) (hd : W.ownsRow w.heap.size 5 1 (.slice c.ao c.d.length c.cap) c.d.length (c.d.map bv)) (hl : ∀ x ∈ c.d, x < 256)
    (ho : W'.ownsRow w.heap.size 70 5 v' (k + 1) (L.flatMap Ck.cells ++ c.cells)) (hg : (W.alloc o).grownBy W' v.ownBlock) : Bx1 w W' A tA ∧ Cks w W' v' (L ++ [c]) := by
  subst hk
  have h' := h.later (below1 W o)
  exact ⟨(hb.later (below1 W o)).grownT h'.own hne hg, h'.push c (owns_same hd (fun g hg' => (below1 W o).block g (owns_lt hd g hg').1)) hl ho hg⟩
/-- a box of another type stays where a row grows -/
theorem boxT {W W' : World} {B e size n b t : Nat} {v : Value} {xs : List Value} {A : Array Value} (h : W.heap[b]? = some (.cells A t (0, 0))) (ho : W.ownsRow B e size v n xs) (hne : t ≠ e) (hg : W.grownBy W' v.ownBlock) : W'.heap[b]? = some (.cells A t (0, 0)) := by
  rw [hg.block _ (block_lt h) (fun hx => ?_)]
  · exact h
  · obtain ⟨_, _, cur, hc⟩ := owns_ltK ho _ hx.symm
    rw [h] at hc
    simp at hc
    exact hne hc.2
theorem box_later {W W' : World} {b t : Nat} {A : Array Value} (h : W.heap[b]? = some (.cells A t (0, 0))) (k : Below W.heap.size W W') : W'.heap[b]? = some (.cells A t (0, 0)) := by rw [k.block _ (block_lt h)]; exact h
end Go.Proofs.YtefgdhoapmikhaaDoor
