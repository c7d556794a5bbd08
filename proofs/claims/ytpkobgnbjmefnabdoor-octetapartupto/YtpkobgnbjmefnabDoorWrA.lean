import Derived.Test.YtpkobgnbjmefnabDoorWriterZ
import Derived.Test.YtpkobgnbjmefnabDoorHeadsW
import Derived.Test.YtpkobgnbjmefnabDoorCopyW
import Derived.Test.YtpkobgnbjmefnabDoorBackM
import Derived.Test.YtpkobgnbjmefnabDoorOwnL
namespace Go.Proofs.YtpkobgnbjmefnabDoor
open Go.RowKit
set_option linter.unusedVariables false
set_option maxRecDepth 100000

theorem bigTo_mod (v k : Nat) : bigTo (v % 256 ^ k) k k = bigTo v k k := by
  unfold bigTo
  apply List.map_congr_left
  intro j hj
  have hj' := List.mem_range.1 hj
  have e1 : (256 : Nat) ^ k = 2 ^ (8 * (k - 1 - j)) * 256 ^ (j + 1) := by
    rw [show (256 : Nat) = 2 ^ 8 from rfl, ← Nat.pow_mul, ← Nat.pow_mul, ← Nat.pow_add]
    congr 1
    omega
  show v % 256 ^ k / 2 ^ (8 * (k - 1 - j)) % 256 = v / 2 ^ (8 * (k - 1 - j)) % 256
  rw [e1, Nat.mod_mul_right_div_self]
  exact Nat.mod_mod_of_dvd _ ⟨256 ^ j, by rw [Nat.pow_succ, Nat.mul_comm]⟩

/-- what a call of a script writes -/
def Item.wr (x : Item) : List Nat :=
  if x.kind = 1 then bigTo x.v 1 1 else if x.kind = 2 then bigTo x.v 2 2 else if x.kind = 3 then bigTo x.v 4 4 else if x.kind = 4 then bigTo x.v 8 8
  else if x.kind = 5 then x.b else if x.kind = 6 then zM x.n else if x.kind = 7 then tM x.s else []
theorem wr_end {w w1 w2 : World} {B p : Nat} {v v1 r : Value} {L : List Nat} {n : Nat} {xs : List Value} (hp : WPost w w1 B p v v1 L) (ho : w2.ownsRow w1.heap.size 5 1 r n xs) (hb : Below w1.heap.size w1 w2) :
    w2.ownsRow w.heap.size 5 1 r n xs ∧ WPost w w2 B p v v1 L ∧ Sep v1 r :=
  ⟨owns_mono ho hp.kept.size, hp.trans (WPost.ofBelow hp.ok hb), fun g h1 h2 => by
    have := (owns_lt hp.ok.own g h1).1
    have := (owns_lt ho g h2).2
    omega⟩
theorem WPost.andKept {w w2 w3 : World} {B p : Nat} {v v2 : Value} {L : List Nat} (h : WPost w w2 B p v v2 L) {S : Nat → Prop} (k : KeptIn S w2 w3) (hS : ∀ g, S g → w.heap.size ≤ g) (hp : ¬ S p) (hv : ∀ g, v2.ownBlock = some g → ¬ S g) : WPost w w3 B p v v2 L :=
  ⟨h.ok.later k hp hv, h.kept.trans k (fun g hg _ hs => by have := hS g hs; omega), h.fresh⟩

theorem loc_kept {w w1 : World} {B p : Nat} {v : Value} {l : List Nat} {o : Obj} (h : WOk w B p v l) (k : KeptIn (wset p v) (w.alloc o) w1) : w1.heap[w.heap.size]? = some o := by
  rw [k.block _ (by simp) (fun e => ?_)]
  · exact heap_new w o
  · rcases e with e | e
    · have := block_lt h.blk; omega
    · have := (owns_lt h.own _ e).1; omega
theorem loc_below {w w1 : World} {g : Nat} {o : Obj} (h : w.heap[g]? = some o) (k : Below w.heap.size w w1) : w1.heap[g]? = some o := by rw [k.block g (block_lt h)]; exact h
/-- while what was lent is changed -/
structure Turn (W wr : World) (g n : Nat) : Prop where
  blk : ∃ D : List Nat, D.length = n + 70 ∧ (∀ x ∈ D, x < 256) ∧ wr.heap[g]? = some (.cells (D.map bv).toArray 5 (0, 0))
  kept : KeptIn (fun x => x = g) W wr
theorem Turn.cell {W wr : World} {g n : Nat} (h : Turn W wr g n) (k : Nat) (hk : k < n) :
    ∃ x : Nat, x < 256 ∧ wr.cell? ⟨g, k, none⟩ = some (.int .u8 (x : Int)) ∧ wr.frozen? ⟨g, k, none⟩ = false ∧ ∀ y : Nat, y < 256 → Turn W (wr.setCell ⟨g, k, none⟩ (.int .u8 (y : Int))) g n := by
  obtain ⟨D, hD, hlt, hb⟩ := h.blk
  have hkD : k < D.length := by omega
  refine ⟨D[k], hlt _ (List.getElem_mem hkD), ?_, blk_free hb k, fun y hy => ⟨⟨D.set k y, by simp [hD], ?_, ?_⟩, ?_⟩⟩
  · rw [blk_at hb]; simp [hkD, bv]
  · intro x hx
    rcases List.mem_or_eq_of_mem_set hx with h' | h'
    · exact hlt x h'
    · omega
  · have := heap_setCell_same wr g k (D.map bv).toArray 5 (.int .u8 (y : Int)) hb
    rw [this]
    congr 2
    rw [List.map_set]
    simp [bv]
  · exact h.kept.trans (T := fun x => x = g) ⟨rfl, rfl, rfl, by simp, fun b hb' hS => Below.heap_setCell _ _ _ _ (fun e => hS e)⟩ (fun _ _ h => h)
theorem turn_start {W : World} {g : Nat} {l : List Nat} (h : W.heap[g]? = some (.cells ((l ++ marksTo 70).map bv).toArray 5 (0, 0))) (hl : ∀ x ∈ l, x < 256) : Turn W W g l.length := by
  refine ⟨⟨l ++ marksTo 70, by simp [marksTo_length], ?_, h⟩, KeptIn.refl _ _⟩
  intro x hx
  rcases List.mem_append.1 hx with h' | h'
  · exact hl x h'
  · obtain ⟨j, hj, rfl⟩ := List.mem_map.1 h'
    have := List.mem_range.1 hj
    omega
end Go.Proofs.YtpkobgnbjmefnabDoor
