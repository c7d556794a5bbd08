import Derived.Test.YtjikibhhhchgeaaDoorY48
namespace Go.Proofs.YtjikibhhhchgeaaDoor
open Go.RowKit
set_option linter.unusedVariables false
set_option linter.unusedSimpArgs false
theorem take_set1 {α : Type} : ∀ (l : List α) (o : Nat) (v : α), o < l.length → (l.set o v).take (o + 1) = l.take o ++ [v]
  | x :: l, 0, v, _ => by simp
  | x :: l, o + 1, v, h => by simp at h; simp [take_set1 l o v h]
theorem setA_full : ∀ (vs : List Value) (o : Nat) (cs : Array Value), o + vs.length = cs.size → setA cs o vs = (cs.toList.take o ++ vs).toArray
  | [], o, cs, h => by
    have : cs.toList.take o = cs.toList := List.take_of_length_le (by simp at h; simp [h])
    simp [setA, this]
  | v :: vs, o, cs, h => by
    have h1 : o < cs.toList.length := by simp at h ⊢; omega
    have := setA_full vs (o + 1) (cs.setIfInBounds o v) (by simp at h ⊢; omega)
    show setA (cs.setIfInBounds o v) (o + 1) vs = _
    rw [this]
    congr 1
    rw [Array.toList_setIfInBounds, take_set1 _ _ _ h1]
    simp
theorem setA_all (cs : Array Value) (vs : Array Value) (h : vs.size = cs.size) : setA cs 0 vs.toList = vs := by
  rw [setA_full _ _ _ (by simpa using h)]; simp
theorem drop_set1 {α : Type} : ∀ (l : List α) (o : Nat) (v : α) (k : Nat), o < k → (l.set o v).drop k = l.drop k
  | [], o, v, k, _ => by simp
  | x :: l, 0, v, k + 1, _ => by simp
  | x :: l, o + 1, v, k + 1, h => by simpa using drop_set1 l o v k (by omega)
theorem setA_mid : ∀ (vs : List Value) (o : Nat) (cs : Array Value), o + vs.length ≤ cs.size → setA cs o vs = (cs.toList.take o ++ vs ++ cs.toList.drop (o + vs.length)).toArray
  | [], o, cs, h => by simp [setA]
  | v :: vs, o, cs, h => by
    have h1 : o < cs.toList.length := by simp at h ⊢; omega
    have := setA_mid vs (o + 1) (cs.setIfInBounds o v) (by simp at h ⊢; omega)
    show setA (cs.setIfInBounds o v) (o + 1) vs = _
    rw [this]
    congr 1
    rw [Array.toList_setIfInBounds, take_set1 _ _ _ h1, drop_set1 _ _ _ _ (by omega)]
    simp [Nat.add_assoc, Nat.add_comm 1]
theorem setCells_size (b : Nat) : ∀ (vs : List Value) (o : Nat) (w : World), (w.setCells b o vs).heap.size = w.heap.size
  | [], o, w => rfl
  | v :: vs, o, w => by
    show ((w.setCell ⟨b, o, none⟩ v).setCells b (o + 1) vs).heap.size = _
    rw [setCells_size b vs (o + 1)]
    simp [World.setCell]
end Go.Proofs.YtjikibhhhchgeaaDoor
