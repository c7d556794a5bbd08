import Derived.Test.YtpkobgnbjmefnabDoorHeadsW
namespace Go.Proofs.YtpkobgnbjmefnabDoor
open Go.RowKit
set_option linter.unusedVariables false
set_option maxRecDepth 100000

/-- one entry of a script -/
structure Item where
  kind : Int
  v : Nat
  n : Int
  ao : Option Addr
  cap : Nat
  b : List Nat
  s : ByteArray
def Item.cells (x : Item) : List Value := [.int .i64 x.kind, .int .u64 (x.v : Int), .int .i64 x.n, .slice x.ao x.b.length x.cap, .string x.s]
def Item.enc (x : Item) : List Nat :=
  if x.kind = 1 then bigTo (x.v % 256) 1 1 else if x.kind = 2 then bigTo (x.v % 65536) 2 2 else if x.kind = 3 then bigTo (x.v % 4294967296) 4 4
  else if x.kind = 4 then bigTo x.v 8 8 else if x.kind = 5 then x.b else bigTo x.s.size 4 4 ++ sbytes x.s
def Item.keep (x : Item) : Bool := x.kind == 1 || x.kind == 2 || x.kind == 3 || x.kind == 4 || x.kind == 5 || (x.kind == 7 && plainB x.s.data.toList && decide (x.s.size ≤ 4096))
def doneOf (X : Nat → Item) : Nat → List Item
  | 0 => []
  | k + 1 => if (X k).keep then doneOf X k ++ [X k] else doneOf X k
def encAll (l : List Item) : List Nat := l.flatMap Item.enc
theorem encAll_snoc (l : List Item) (x : Item) : encAll (l ++ [x]) = encAll l ++ x.enc := by simp [encAll]
theorem doneOf_yes (X : Nat → Item) (k : Nat) (h : (X k).keep = true) : doneOf X (k + 1) = doneOf X k ++ [X k] := by simp [doneOf, h]
theorem doneOf_no (X : Nat → Item) (k : Nat) (h : (X k).keep = false) : doneOf X (k + 1) = doneOf X k := by simp [doneOf, h]
theorem doneOf_mem (X : Nat → Item) (k : Nat) (x : Item) (h : x ∈ doneOf X k) : x.keep = true ∧ ∃ i, i < k ∧ x = X i := by
  induction k with
  | zero => simp [doneOf] at h
  | succ k ih =>
    simp only [doneOf] at h
    split at h
    · rename_i hk
      rcases List.mem_append.1 h with h' | h'
      · obtain ⟨h1, i, hi, e⟩ := ih h'; exact ⟨h1, i, by omega, e⟩
      · simp at h'; subst h'; exact ⟨hk, k, by omega, rfl⟩
    · obtain ⟨h1, i, hi, e⟩ := ih h; exact ⟨h1, i, by omega, e⟩
theorem doneOf_len (X : Nat → Item) (k : Nat) : (doneOf X k).length ≤ k := by
  induction k with
  | zero => simp [doneOf]
  | succ k ih =>
    simp only [doneOf]
    split
    · rw [List.length_append, List.length_singleton]; omega
    · omega
theorem enc_len (x : Item) : x.enc.length ≤ x.b.length + x.s.size + 8 := by
  unfold Item.enc
  repeat' split
  all_goals try simp only [bigTo_length, List.length_append, sbytes_length]
  all_goals omega

/-- what bytes of a number say -/
theorem valB_bigTo (x size k : Nat) (hk : k ≤ size) (hx : x < 256 ^ size) : valB (bigTo x size k) = x / 2 ^ (8 * (size - k)) := by
  induction k with
  | zero =>
    rw [show bigTo x size 0 = [] from rfl, show valB [] = 0 from rfl, Nat.sub_zero]
    have : (2 : Nat) ^ (8 * size) = 256 ^ size := by rw [Nat.pow_mul]
    rw [this, Nat.div_eq_of_lt hx]
  | succ k ih =>
    rw [bigTo_succ, valB_snoc, ih (by omega)]
    have e1 : size - k = (size - 1 - k) + 1 := by omega
    have e2 : size - (k + 1) = size - 1 - k := by omega
    rw [e1, e2]
    have : x / 2 ^ (8 * (size - 1 - k + 1)) = x / 2 ^ (8 * (size - 1 - k)) / 256 := by
      rw [Nat.div_div_eq_div_mul, show 8 * (size - 1 - k + 1) = 8 * (size - 1 - k) + 8 by omega, Nat.pow_add]
    rw [this]; omega
theorem valB_big (x size : Nat) (hx : x < 256 ^ size) : valB (bigTo x size size) = x := by
  rw [valB_bigTo x size size (Nat.le_refl _) hx]; simp

/-- rows of more cells an element -/
theorem ownsG_same {w w' : World} {base e n size : Nat} {v : Value} {xs : List Value} (h : w.ownsRow base e size v n xs) (hs : ∀ g, v.ownBlock = some g → w'.heap[g]? = w.heap[g]?) : w'.ownsRow base e size v n xs := by
  refine ⟨h.1, ?_⟩
  rcases h.2 with h2 | ⟨g, cap, cur, hv, hb, hh, r⟩
  · exact .inl h2
  · subst hv; exact .inr ⟨g, cap, cur, rfl, hb, by rw [hs g rfl]; exact hh, r⟩
theorem ownsG_type {w : World} {base e n size : Nat} {v : Value} {xs : List Value} (h : w.ownsRow base e size v n xs) (g : Nat) (hg : v.ownBlock = some g) : (∃ cur, w.heap[g]? = some (.cells cur e (0, 0))) ∧ base ≤ g := by
  rcases h.2 with ⟨hv, _⟩ | ⟨g', cap, cur, hv, hb, hh, _⟩
  · subst hv; simp [Value.ownBlock] at hg
  · subst hv; simp [Value.ownBlock] at hg; subst hg; exact ⟨⟨cur, hh⟩, hb⟩

structure BInv (w wr : World) (p : Nat) (v u : Value) (ds : List Item) : Prop where
  wok : WOk wr w.heap.size p v (encAll ds)
  don : wr.ownsRow w.heap.size 52 5 u ds.length (ds.flatMap Item.cells)
  bel : Below w.heap.size w wr
/-- behind a call on the writer -/
theorem BInv.write {w wr w1 : World} {p : Nat} {v v1 u : Value} {ds : List Item} {l' : List Nat} (h : BInv w wr p v u ds) (hp : WPost wr w1 w.heap.size p v v1 l') :
    w1.ownsRow w.heap.size 52 5 u ds.length (ds.flatMap Item.cells) ∧ Below w.heap.size w w1 := by
  have hb := wset_below h.wok hp.kept h.bel.size
  refine ⟨ownsG_same h.don fun g hg => ?_, h.bel.trans hb⟩
  obtain ⟨⟨cur, hc⟩, _⟩ := ownsG_type h.don g hg
  refine hp.kept.block g (block_lt hc) fun hS => ?_
  rcases hS with e | e
  · subst e; rw [h.wok.blk] at hc; simp at hc
  · obtain ⟨cur', hc'⟩ := owns_type h.wok.own g e
    rw [hc'] at hc; simp at hc
theorem BInv.alloc {w wr : World} {p : Nat} {v u : Value} {ds : List Item} (h : BInv w wr p v u ds) (o : Obj) : BInv w (wr.alloc o) p v u ds :=
  ⟨h.wok.later (S := fun _ => False) (KeptIn.ofBelow ((Below.refl _ _).alloc (Nat.le_refl _) o)) (fun h => h) (fun _ _ h => h), h.don.alloc o, h.bel.alloc h.bel.size o⟩
/-- behind 'done = append(done, x)' -/
theorem BInv.done {w wr w1 : World} {p : Nat} {v u u' : Value} {ds : List Item} {x : Item} {l' : List Nat} (hw : WOk wr w.heap.size p v l') (hl : l' = encAll ds ++ x.enc) (hd : wr.ownsRow w.heap.size 52 5 u ds.length (ds.flatMap Item.cells)) (hb : Below w.heap.size w wr)
    (ho : w1.ownsRow w.heap.size 52 5 u' (ds.length + 1) (ds.flatMap Item.cells ++ x.cells)) (hg : wr.grownBy w1 u.ownBlock) : BInv w w1 p v u' (ds ++ [x]) := by
  have hS : ∀ g cur (t : TypeId), wr.heap[g]? = some (.cells cur t (0, 0)) → t ≠ 52 → some g ≠ u.ownBlock := fun g cur t h1 ht e => by
    obtain ⟨⟨cur', hc⟩, _⟩ := ownsG_type hd g e.symm
    rw [h1] at hc; simp at hc; exact ht hc.2
  refine ⟨⟨?_, ?_, ?_, hw.hp⟩, ?_, hb.grown hg hb.size (fun g hgu => (ownsG_type hd g hgu).2)⟩
  · rw [hg.block p (block_lt hw.blk) (hS p _ _ hw.blk (by decide))]; exact hw.blk
  · rw [encAll_snoc, ← hl]
    exact owns_same hw.own fun g hgv => by
      obtain ⟨cur, hc⟩ := owns_type hw.own g hgv
      exact hg.block g (block_lt hc) (hS g _ _ hc (by decide))
  · rw [encAll_snoc, ← hl]; exact hw.lt
  · simpa using ho

theorem news_cells (W : World) (xs : List Value) (e : TypeId) (fr : Nat × Nat) : ∀ j u, xs[j]? = some u → (W.alloc (.cells xs.toArray e fr)).cell? ((⟨W.heap.size, 0, none⟩ : Addr).add j) = some u := by
  intro j u hu
  rw [WideShapes.add_plain, Nat.zero_add, World.cell?_alloc_mark]
  simpa using hu
theorem cells_one (x : Item) : ∀ u ∈ x.cells, u.oneCell' = true := by
  intro u hu
  simp only [Item.cells, List.mem_cons, List.mem_nil_iff, or_false] at hu
  rcases hu with rfl | rfl | rfl | rfl | rfl <;> rfl
/-- behind the call that writes x: what the rest of the round wants -/
theorem back_step {w wr w2 : World} {p : Nat} {v v2 u : Value} {ds : List Item} {x : Item} (h : BInv w wr p v u ds) (hp : WPost (wr.alloc (.cells x.cells.toArray 52)) w2 w.heap.size p v v2 (encAll ds ++ x.enc)) :
    (∀ j u', x.cells[j]? = some u' → w2.cell? ⟨wr.heap.size, j, none⟩ = some u') ∧ (∀ o, (w2.alloc o).ownsRow w.heap.size 52 5 u ds.length (ds.flatMap Item.cells)) ∧ w.heap.size ≤ w2.heap.size ∧
    (∀ o u' w3, w3.ownsRow w.heap.size 52 5 u' (ds.length + 1) (ds.flatMap Item.cells ++ x.cells) → (w2.alloc o).grownBy w3 u.ownBlock → BInv w w3 p v2 u' (ds ++ [x])) := by
  have ha := h.alloc (.cells x.cells.toArray 52)
  obtain ⟨hd, hb⟩ := ha.write hp
  refine ⟨?_, fun o => hd.alloc o, hb.size, ?_⟩
  · intro j u' hu
    have hlt := block_lt h.wok.blk
    have hblk : (wr.alloc (.cells x.cells.toArray 52)).heap[wr.heap.size]? = some (.cells x.cells.toArray 52) := heap_new wr _
    have hk := hp.kept.block wr.heap.size (by simp) (fun hS => by
      rcases hS with e | e
      · omega
      · have := (owns_lt h.wok.own _ e).1; omega)
    rw [hblk] at hk
    rw [blk_at hk]; simpa using hu
  · intro o u' w3 ho hg
    have ok2 : WOk (w2.alloc o) w.heap.size p v2 (encAll ds ++ x.enc) := hp.ok.later (S := fun _ => False) (KeptIn.ofBelow ((Below.refl _ _).alloc (Nat.le_refl _) o)) (fun h => h) (fun _ _ h => h)
    exact BInv.done ok2 rfl (hd.alloc o) (hb.alloc hb.size o) ho hg
/-- nothing was written -/
theorem back_same {w wr w2 : World} {p : Nat} {v u : Value} {ds : List Item} (h : BInv w wr p v u ds) (o : Obj) (hp : WPost (wr.alloc o) w2 w.heap.size p v v (encAll ds)) : BInv w w2 p v u ds :=
  ⟨hp.ok, ((h.alloc o).write hp).1, ((h.alloc o).write hp).2⟩
end Go.Proofs.YtpkobgnbjmefnabDoor
