import Derived.Test.YtfifaaopdhcaaaaGreatDoorY16
import Derived.Test.YtfifaaopdhcaaaaGreatDoorY15
namespace Go.Proofs.YtfifaaopdhcaaaaGreatDoor
open Go.RowKit
set_option linter.unusedVariables false
set_option linter.unusedSimpArgs false
set_option maxRecDepth 100000
theorem brow_nil' (w : World) : BRow w none 0 [] := ⟨by simp, by simp, fun _ => ⟨rfl, rfl⟩, fun h => absurd rfl h⟩
/-- Lay over what was just built, with a row behind -/
theorem layR {w W : World} (F : List (Nat × Nat)) (k0 : Nat) (cs : Array Value) (hcs : cs = (fcells F).toArray) (hb : Below w.heap.size w W) (hk0 : F.length = k0) (h8 : ∀ x ∈ F, x.1 < 18446744073709551616 ∧ 1 ≤ x.2 ∧ x.2 ≤ 8) (hk : k0 ≤ 10) {W' : World} (hb' : Below (W.alloc (.cells cs TFd)).heap.size (W.alloc (.cells cs TFd)) W') (ao : Option Addr) (cap n : Nat) (d : List Nat) (hd : BRow W' ao cap d) (hn : d.length = n) (hn2 : n ≤ 1099511627776) (L : List Nat) (hL : layF F ++ d = L) :
    Calls Tryz.prog 72 #[.slice (some ⟨W.heap.size, 0, none⟩) k0 k0, .slice ao n cap] W' fun e w' => ∃ ao' cap' m, e = .returned (.slice ao' m cap') ∧ L.length = m ∧ Row w w' ao' cap' L ∧ Below W.heap.size W w' := by
  subst hcs; subst hL; subst hn
  have hF : W'.heap[W.heap.size]? = some (.cells (fcells F).toArray TFd (0, 0)) := by rw [hb'.block _ (by simp)]; exact heap_new W _
  have hbel : Below w.heap.size w W' := (hb.alloc hb.size _).trans (hb'.mono (by have := (hb.alloc hb.size (.cells (fcells F).toArray TFd)).size; exact this))
  exact (lay_ok F W.heap.size k0 ao cap d W' hF hk0 h8 hk hd hn2).mono fun e w' ⟨a2, c2, h1, h2⟩ => ⟨a2, c2, _, h1, rfl, ⟨owns_mono h2.own hbel.size, h2.lt, hbel.trans (h2.bel.mono hbel.size)⟩, (below1 W _).trans ((hb'.mono (below1 W _).size).trans (h2.bel.mono (Nat.le_trans (below1 W _).size hb'.size)))⟩
end Go.Proofs.YtfifaaopdhcaaaaGreatDoor

namespace Go.Proofs.YtfifaaopdhcaaaaGreatDoor
open Go.RowKit
set_option linter.unusedVariables false
set_option linter.unusedSimpArgs false
set_option maxRecDepth 100000
/-- a row of one's own that was made since w, of n bytes -/
structure Rn (w W : World) (ao : Option Addr) (cap n : Nat) (l : List Nat) : Prop where
  own : W.ownsRow w.heap.size 5 1 (.slice ao n cap) n (l.map bv)
  len : l.length = n
  lt : ∀ x ∈ l, x < 256
  bel : Below w.heap.size w W
theorem Row.rn {w W : World} {ao : Option Addr} {cap n : Nat} {l : List Nat} (h : Row w W ao cap l) (hn : l.length = n) : Rn w W ao cap n l := by subst hn; exact ⟨h.own, rfl, h.lt, h.bel⟩
theorem Rn.row {w W : World} {ao : Option Addr} {cap n : Nat} {l : List Nat} (h : Rn w W ao cap n l) : Row w W ao cap l := by have := h.len; subst this; exact ⟨h.own, h.lt, h.bel⟩
theorem Rn.later {w W W' : World} {ao : Option Addr} {cap n : Nat} {l : List Nat} (h : Rn w W ao cap n l) (k : Below W.heap.size W W') : Rn w W' ao cap n l :=
  ⟨owns_same h.own (fun g hg => k.block g (owns_lt h.own g hg).1), h.len, h.lt, h.bel.trans (k.mono h.bel.size)⟩
theorem Rn.appended {w W w1 : World} {ao a5 : Option Addr} {cap c5 n k : Nat} {l m : List Nat} (h : Rn w W ao cap n l) (ho : w1.ownsRow w.heap.size 5 1 (.slice a5 (n + k) c5) (n + k) (l.map bv ++ m.map bv)) (hg : W.grownBy w1 (Value.slice ao n cap).ownBlock) (hm : ∀ x ∈ m, x < 256) (hk : m.length = k) : Rn w w1 a5 c5 (n + k) (l ++ m) :=
  ⟨by rw [List.map_append]; exact ho, by rw [List.length_append, h.len, hk], fun x hx => (List.mem_append.1 hx).elim (h.lt x) (hm x), h.bel.grown hg h.bel.size (fun g hg' => (owns_lt h.own g hg').2)⟩
/-- what was there ahead of an append stays, but for the row's own block -/
theorem Rn.box {w W w1 : World} {ao : Option Addr} {cap n : Nat} {l : List Nat} (h : Rn w W ao cap n l) (hg : W.grownBy w1 (Value.slice ao n cap).ownBlock) {b : Nat} {cs : Array Value} {t : TypeId} (hb : W.heap[b]? = some (.cells cs t (0, 0))) (ht : t ≠ 5) : w1.heap[b]? = some (.cells cs t (0, 0)) := by
  rw [hg.block b (block_lt hb) (fun e => ?_)]
  · exact hb
  · obtain ⟨cur, e1⟩ := owns_type h.own b e.symm
    rw [hb] at e1; simp at e1; exact ht e1.2
theorem bigRow {W Wb : World} {g m x : Nat} (hm : m ≤ 8) (h : Wb.ownsRow W.heap.size 5 1 (.slice (some ⟨g, 0, none⟩) m m) m ((bigTo x m m).map bv)) : BRow Wb (some ⟨g, 0, none⟩) m (bigTo x m m) := by
  have h' : Wb.ownsRow W.heap.size 5 1 (.slice (some ⟨g, 0, none⟩) (bigTo x m m).length m) (bigTo x m m).length ((bigTo x m m).map bv) := by rw [bigTo_length]; exact h
  obtain ⟨ao', cap', hv, hb⟩ := BRow.own h' (bigTo_lt _ _ _) (by rw [bigTo_length]; omega)
  simp only [Value.slice.injEq] at hv
  obtain ⟨rfl, _, rfl⟩ := hv
  exact hb
/-- numbers of two bytes in memory -/
structure U16s (w : World) (ao : Option Addr) (l : List Nat) : Prop where
  lt : ∀ x ∈ l, x < 65536
  at_ : l ≠ [] → ∃ b off, ao = some ⟨b, off, none⟩ ∧ ∀ k (hk : k < l.length), w.cell? ⟨b, off + k, none⟩ = some (.int .u16 ((l[k] : Nat) : Int))
theorem U16s.later {w w' : World} {ao : Option Addr} {l : List Nat} (h : U16s w ao l) (hb : Below w.heap.size w w') : U16s w' ao l :=
  ⟨h.lt, fun hl => by obtain ⟨b, off, e, hc⟩ := h.at_ hl; exact ⟨b, off, e, fun k hk => cell_later hb (hc k hk)⟩⟩
def u16L (l : List Nat) : List Nat := l.flatMap (fun x => bigTo x 2 2)
theorem u16L_snoc (l : List Nat) (x : Nat) : u16L (l ++ [x]) = u16L l ++ bigTo x 2 2 := by simp [u16L]
theorem u16L_len : ∀ l : List Nat, (u16L l).length = 2 * l.length
  | [] => rfl
  | x :: l => by
    have h := u16L_len l
    simp only [u16L, List.flatMap_cons, List.length_append, bigTo_length, List.length_cons] at h ⊢
    omega
def irL (s : ByteArray) (ks : List Nat) : List Nat := [] ++ (bigTo s.size 4 4 ++ sbytes s) ++ bigTo ks.length 2 2 ++ u16L ks
end Go.Proofs.YtfifaaopdhcaaaaGreatDoor
