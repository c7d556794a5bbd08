import Derived.Test.YtoabigjajnikcaaTRd
namespace Go.Proofs.Ytoabigjajnikcaa.X
open Go.RowKit Go.Maps Go.Proofs.Ytoabigjajnikcaa
attribute [local go_sem] Oper.semAt_some
set_option linter.unusedVariables false
set_option linter.unusedSimpArgs false
set_option maxRecDepth 100000

section
variable {w W0 W : World} {n0 B b bm p : Nat} {S : St} {stop : Int} {pre : List Pe}
/-- what holds between two rounds of the first ranging -/
def IR (n0 : Nat) (w W0 : World) (B b bm p : Nat) (S : St) (stop : Int) (pre : List Pe) (W : World) : Prop :=
  KpR B (W0.heap.size + 1) b bm p W0 W ∧ (∃ F G V v U vg, Rg W n0 B W0.heap.size b bm p F G V v U (drp S pre.length) (drp S pre.length) vg pre) ∧ (∀ j : Nat, j < pre.length → (j : Int) ≠ stop) ∧ (∀ y ∈ pre, W0.heap.size + 2 ≤ y.lo) ∧ Below n0 w W
def IxR (n0 : Nat) (w W0 : World) (B b bm p : Nat) (S : St) (stop : Int) (cx c : Code) (q : List Pe) (W : World) : Prop := ∃ pre x, q = pre ++ [x] ∧ c = cx ∧ (pre.length : Int) = stop ∧ IR n0 w W0 B b bm p S stop pre W
theorem IR.ab (hB : B < W0.heap.size) (hp : p < W0.heap.size) (hn : n0 ≤ W0.heap.size) : AbQ W0.heap.size (IR n0 w W0 B b bm p S stop) := by
  refine ⟨fun s X Y hI hb => ?_, fun s X r r' hI hr => ?_⟩
  · obtain ⟨h1, ⟨F, G, V, v, U, vg, h2⟩, h3, h4, h5⟩ := hI
    exact ⟨kpR_t h1 (kpR_below hb), ⟨F, G, V, v, U, vg, h2.later hb⟩, h3, h4, h5.trans (hb.mono h2.p2.le)⟩
  · obtain ⟨h1, ⟨F, G, V, v, U, vg, h2⟩, h3, h4, h5⟩ := hI
    exact ⟨kpR_t h1 (kpR_put (by omega) (by omega) X _), ⟨F, G, V, v, U, vg, h2.put hr⟩, h3, h4, h5.trans ⟨rfl, rfl, rfl, by simp, fun k hk => World.putObj_heap_other (by omega)⟩⟩
theorem IxR.ab (hB : B < W0.heap.size) (hp : p < W0.heap.size) (hn : n0 ≤ W0.heap.size) (cx c : Code) : AbQ W0.heap.size (IxR n0 w W0 B b bm p S stop cx c) := by
  have h := IR.ab (w := w) (b := b) (bm := bm) (S := S) (stop := stop) hB hp hn
  refine ⟨fun s X Y hI hb => ?_, fun s X r r' hI hr => ?_⟩
  · obtain ⟨pre, x, h1, h2, h3, h4⟩ := hI
    exact ⟨pre, x, h1, h2, h3, h.b _ _ _ h4 hb⟩
  · obtain ⟨pre, x, h1, h2, h3, h4⟩ := hI
    exact ⟨pre, x, h1, h2, h3, h.l _ _ _ _ h4 hr⟩
end
end Go.Proofs.Ytoabigjajnikcaa.X
