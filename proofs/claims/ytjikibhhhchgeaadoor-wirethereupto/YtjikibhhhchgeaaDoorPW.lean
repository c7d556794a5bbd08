import Derived.Test.YtjikibhhhchgeaaDoorPBd
namespace Go.Proofs.YtjikibhhhchgeaaDoor
open Go.RowKit
set_option linter.unusedVariables false
set_option linter.unusedSimpArgs false
set_option maxRecDepth 100000
theorem KeptIn.drewd {S : Nat → Prop} {a b : World} (h : KeptIn S a b) : KeptIn S a b.drew := ⟨h.os, h.tape, h.output, h.size, h.block⟩
theorem rendG {w W : World} {c r : Nat} {ao : Option Addr} {cap : Nat} {l : List Nat} {at_ er : Nat} (h : Bg w W c r ao cap l at_ er) : Calls Tryd.prog 108 #[.pointer (some ⟨r, 0, none⟩)] W fun e w' => ∃ E : Int, e = .returned (.int .i64 E) ∧ (E == 0) = decide (at_ = l.length) ∧ ∃ q, w' = W.drewN q := by
  by_cases e : at_ = l.length
  · subst e
    exact (rend_any w.heap.size r ao cap l W h.rd).mono fun e w' hh => ⟨0, hh.1, by simp, hh.2⟩
  · have hlt : at_ < l.length := by have := h.rd.le; omega
    exact (rend_tail w.heap.size r ao cap l at_ l.length W h.rd (show Hid (l.length = l.length) from rfl) hlt).mono fun e' w' hh => ⟨11, hh.1, by simp [e], hh.2⟩
structure Bk2 (c : Nat) (W W7 : World) (A B : Array Value) (tA tB : TypeId) : Prop where
  a : W7.heap[W.heap.size]? = some (.cells A tA (0, 0))
  b : W7.heap[W.heap.size + 1]? = some (.cells B tB (0, 0))
  size : W.heap.size + 2 ≤ W7.heap.size
  kept : KeptIn (fun g => g = c) W W7
theorem Bk2.of {c : Nat} {W W6 W7 : World} {A B : Array Value} {tA tB : TypeId} (k : KeptIn (fun g => g = c) W6 W7) (h : Bx2 W W6 A B tA tB) (hc : c < W.heap.size) : Bk2 c W W7 A B tA tB :=
  ⟨by rw [k.block _ (block_lt h.a) (by omega)]; exact h.a, by rw [k.block _ (block_lt h.b) (by omega)]; exact h.b, Nat.le_trans h.size k.size, (KeptIn.ofBelow h.bel).trans k (fun _ _ hn => hn)⟩
theorem Bk2.later {c : Nat} {W W7 W8 : World} {A B : Array Value} {tA tB : TypeId} (h : Bk2 c W W7 A B tA tB) (k : Below W7.heap.size W7 W8) : Bk2 c W W8 A B tA tB :=
  ⟨by rw [k.block _ (block_lt h.a)]; exact h.a, by rw [k.block _ (block_lt h.b)]; exact h.b, Nat.le_trans h.size k.size, h.kept.trans (KeptIn.ofBelow (S := fun g => g = c) k) (fun _ _ hn => hn)⟩
theorem putc2 {W : World} {g : Nat} {t : TypeId} {a0 a1 : Value} (h : W.heap[g]? = some (.cells #[a0, a1] t (0, 0))) (v0 v1 : Value) :
    ((W.setCell ⟨g, 0, none⟩ v0).setCell ⟨g, 1, none⟩ v1).heap[g]? = some (.cells #[v0, v1] t (0, 0)) ∧ KeptIn (fun k => k = g) W ((W.setCell ⟨g, 0, none⟩ v0).setCell ⟨g, 1, none⟩ v1) := by
  have h0 : (W.setCell ⟨g, 0, none⟩ v0).heap[g]? = some (.cells #[v0, a1] t (0, 0)) := put_boxX h 0 v0 (by simp)
  have h1 : ((W.setCell ⟨g, 0, none⟩ v0).setCell ⟨g, 1, none⟩ v1).heap[g]? = some (.cells #[v0, v1] t (0, 0)) := put_boxX h0 1 v1 (by simp)
  exact ⟨h1, ((keptIn_set _ _ _ _).trans (keptIn_set _ _ _ _) (fun _ _ hn => hn))⟩
theorem putc4 {W : World} {g : Nat} {t : TypeId} {a0 a1 a2 a3 : Value} (h : W.heap[g]? = some (.cells #[a0, a1, a2, a3] t (0, 0))) (v0 v1 v2 v3 : Value) :
    ((((W.setCell ⟨g, 0, none⟩ v0).setCell ⟨g, 1, none⟩ v1).setCell ⟨g, 2, none⟩ v2).setCell ⟨g, 3, none⟩ v3).heap[g]? = some (.cells #[v0, v1, v2, v3] t (0, 0)) ∧ KeptIn (fun k => k = g) W ((((W.setCell ⟨g, 0, none⟩ v0).setCell ⟨g, 1, none⟩ v1).setCell ⟨g, 2, none⟩ v2).setCell ⟨g, 3, none⟩ v3) := by
  have h0 : (W.setCell ⟨g, 0, none⟩ v0).heap[g]? = some (.cells #[v0, a1, a2, a3] t (0, 0)) := put_boxX h 0 v0 (by simp)
  have h1 : ((W.setCell ⟨g, 0, none⟩ v0).setCell ⟨g, 1, none⟩ v1).heap[g]? = some (.cells #[v0, v1, a2, a3] t (0, 0)) := put_boxX h0 1 v1 (by simp)
  have h2 : (((W.setCell ⟨g, 0, none⟩ v0).setCell ⟨g, 1, none⟩ v1).setCell ⟨g, 2, none⟩ v2).heap[g]? = some (.cells #[v0, v1, v2, a3] t (0, 0)) := put_boxX h1 2 v2 (by simp)
  have h3 : ((((W.setCell ⟨g, 0, none⟩ v0).setCell ⟨g, 1, none⟩ v1).setCell ⟨g, 2, none⟩ v2).setCell ⟨g, 3, none⟩ v3).heap[g]? = some (.cells #[v0, v1, v2, v3] t (0, 0)) := put_boxX h2 3 v3 (by simp)
  exact ⟨h3, ((((keptIn_set _ _ _ _).trans (keptIn_set _ _ _ _) (fun _ _ hn => hn)).trans (keptIn_set _ _ _ _) (fun _ _ hn => hn)).trans (keptIn_set _ _ _ _) (fun _ _ hn => hn))⟩
theorem putc8 {W : World} {g : Nat} {t : TypeId} {a0 a1 a2 a3 a4 a5 a6 a7 : Value} (h : W.heap[g]? = some (.cells #[a0, a1, a2, a3, a4, a5, a6, a7] t (0, 0))) (v0 v1 v2 v3 v4 v5 v6 v7 : Value) :
    ((((((((W.setCell ⟨g, 0, none⟩ v0).setCell ⟨g, 1, none⟩ v1).setCell ⟨g, 2, none⟩ v2).setCell ⟨g, 3, none⟩ v3).setCell ⟨g, 4, none⟩ v4).setCell ⟨g, 5, none⟩ v5).setCell ⟨g, 6, none⟩ v6).setCell ⟨g, 7, none⟩ v7).heap[g]? = some (.cells #[v0, v1, v2, v3, v4, v5, v6, v7] t (0, 0)) ∧ KeptIn (fun k => k = g) W ((((((((W.setCell ⟨g, 0, none⟩ v0).setCell ⟨g, 1, none⟩ v1).setCell ⟨g, 2, none⟩ v2).setCell ⟨g, 3, none⟩ v3).setCell ⟨g, 4, none⟩ v4).setCell ⟨g, 5, none⟩ v5).setCell ⟨g, 6, none⟩ v6).setCell ⟨g, 7, none⟩ v7) := by
  have h0 : (W.setCell ⟨g, 0, none⟩ v0).heap[g]? = some (.cells #[v0, a1, a2, a3, a4, a5, a6, a7] t (0, 0)) := put_boxX h 0 v0 (by simp)
  have h1 : ((W.setCell ⟨g, 0, none⟩ v0).setCell ⟨g, 1, none⟩ v1).heap[g]? = some (.cells #[v0, v1, a2, a3, a4, a5, a6, a7] t (0, 0)) := put_boxX h0 1 v1 (by simp)
  have h2 : (((W.setCell ⟨g, 0, none⟩ v0).setCell ⟨g, 1, none⟩ v1).setCell ⟨g, 2, none⟩ v2).heap[g]? = some (.cells #[v0, v1, v2, a3, a4, a5, a6, a7] t (0, 0)) := put_boxX h1 2 v2 (by simp)
  have h3 : ((((W.setCell ⟨g, 0, none⟩ v0).setCell ⟨g, 1, none⟩ v1).setCell ⟨g, 2, none⟩ v2).setCell ⟨g, 3, none⟩ v3).heap[g]? = some (.cells #[v0, v1, v2, v3, a4, a5, a6, a7] t (0, 0)) := put_boxX h2 3 v3 (by simp)
  have h4 : (((((W.setCell ⟨g, 0, none⟩ v0).setCell ⟨g, 1, none⟩ v1).setCell ⟨g, 2, none⟩ v2).setCell ⟨g, 3, none⟩ v3).setCell ⟨g, 4, none⟩ v4).heap[g]? = some (.cells #[v0, v1, v2, v3, v4, a5, a6, a7] t (0, 0)) := put_boxX h3 4 v4 (by simp)
  have h5 : ((((((W.setCell ⟨g, 0, none⟩ v0).setCell ⟨g, 1, none⟩ v1).setCell ⟨g, 2, none⟩ v2).setCell ⟨g, 3, none⟩ v3).setCell ⟨g, 4, none⟩ v4).setCell ⟨g, 5, none⟩ v5).heap[g]? = some (.cells #[v0, v1, v2, v3, v4, v5, a6, a7] t (0, 0)) := put_boxX h4 5 v5 (by simp)
  have h6 : (((((((W.setCell ⟨g, 0, none⟩ v0).setCell ⟨g, 1, none⟩ v1).setCell ⟨g, 2, none⟩ v2).setCell ⟨g, 3, none⟩ v3).setCell ⟨g, 4, none⟩ v4).setCell ⟨g, 5, none⟩ v5).setCell ⟨g, 6, none⟩ v6).heap[g]? = some (.cells #[v0, v1, v2, v3, v4, v5, v6, a7] t (0, 0)) := put_boxX h5 6 v6 (by simp)
  have h7 : ((((((((W.setCell ⟨g, 0, none⟩ v0).setCell ⟨g, 1, none⟩ v1).setCell ⟨g, 2, none⟩ v2).setCell ⟨g, 3, none⟩ v3).setCell ⟨g, 4, none⟩ v4).setCell ⟨g, 5, none⟩ v5).setCell ⟨g, 6, none⟩ v6).setCell ⟨g, 7, none⟩ v7).heap[g]? = some (.cells #[v0, v1, v2, v3, v4, v5, v6, v7] t (0, 0)) := put_boxX h6 7 v7 (by simp)
  exact ⟨h7, ((((((((keptIn_set _ _ _ _).trans (keptIn_set _ _ _ _) (fun _ _ hn => hn)).trans (keptIn_set _ _ _ _) (fun _ _ hn => hn)).trans (keptIn_set _ _ _ _) (fun _ _ hn => hn)).trans (keptIn_set _ _ _ _) (fun _ _ hn => hn)).trans (keptIn_set _ _ _ _) (fun _ _ hn => hn)).trans (keptIn_set _ _ _ _) (fun _ _ hn => hn)).trans (keptIn_set _ _ _ _) (fun _ _ hn => hn))⟩
theorem infoH : (Tryd.prog.info? 46).map (·.size) = some 2 := by kernel_rfl
theorem infoD : (Tryd.prog.info? 44).map (·.size) = some 2 := by kernel_rfl
theorem infoM : (Tryd.prog.info? 35).map (·.size) = some 2 := by kernel_rfl
theorem infoS : (Tryd.prog.info? 37).map (·.size) = some 2 := by kernel_rfl
theorem infoR : (Tryd.prog.info? 30).map (·.size) = some 2 := by kernel_rfl
theorem infoQ : (Tryd.prog.info? 33).map (·.size) = some 2 := by kernel_rfl
theorem infoT : (Tryd.prog.info? 40).map (·.size) = some 2 := by kernel_rfl
theorem infoE : (Tryd.prog.info? 42).map (·.size) = some 4 := by kernel_rfl
theorem infoI : (Tryd.prog.info? 27).map (·.size) = some 8 := by kernel_rfl
end Go.Proofs.YtjikibhhhchgeaaDoor
