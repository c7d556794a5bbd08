import Derived.Test.YtpchllepboolhabRS
import Derived.Maps.AppendAt
namespace Go.Proofs.Ytpchllepboolhab
open Go.RowKit
attribute [local go_sem] Oper.semAt_some
set_option linter.unusedVariables false
set_option linter.unusedSimpArgs false
set_option maxRecDepth 100000

abbrev TIn : TypeId := 3
abbrev TIns : TypeId := 48
abbrev iv (l : List Int) : List Value := l.map (Value.int .i64)
theorem infoInt : (Try.prog.info? TIn).map (fun i => (i.zero, i.size, i.bytes)) = some (some (.int .i64 0), 1, 8) := by kernel_rfl
theorem ownsRow_drewN {w : World} {base : Nat} {e : TypeId} {size : Nat} {v : Value} {n : Nat} {xs : List Value} (h : w.ownsRow base e size v n xs) : ∀ q, (w.drewN q).ownsRow base e size v n xs
  | 0 => h
  | q + 1 => ownsRow_drewN (w := w.drew) h.drew q
theorem below_drewN (w : World) (q : Nat) : Below w.heap.size w (w.drewN q) := by
  have : ∀ (q : Nat) (w : World), (w.drewN q).os = w.os ∧ (w.drewN q).tape = w.tape ∧ (w.drewN q).output = w.output ∧ (w.drewN q).heap = w.heap := by
    intro q
    induction q with
    | zero => intro w; exact ⟨rfl, rfl, rfl, rfl⟩
    | succ q ih => intro w; exact ih w.drew
  obtain ⟨h1, h2, h3, h4⟩ := this q w
  exact ⟨h1, h2, h3, by rw [h4]; exact Nat.le_refl _, fun i _ => by rw [h4]⟩
theorem row_ints {W : World} {B : Nat} {v : Value} {ks : List Int} (h : W.ownsRow B TIn 1 v ks.length (iv ks)) : (ks = [] ∧ v = .slice none 0 0) ∨ ∃ gv off cap, v = .slice (some ⟨gv, off, none⟩) ks.length cap ∧ ∀ j u, (iv ks)[j]? = some u → W.cell? ((⟨gv, off, none⟩ : Addr).add j) = some u := by
  rcases h.2 with ⟨rfl, h0⟩ | ⟨gv, cap, cur, rfl, hb, hg, hc, _, hsz, ht⟩
  · exact .inl ⟨List.length_eq_zero_iff.1 h0, rfl⟩
  · exact .inr ⟨gv, 0, cap, rfl, h.cells (g := gv) rfl⟩
def memB (u : Int) (l : List Int) : Bool := decide (u ∈ l)
theorem app1 {w : World} {B : Nat} {u : Int} (hB : B ≤ w.heap.size) : (w.alloc (.cells #[.int .i64 u] TIn)).ownsRow B TIn 1 (.slice (some ⟨w.heap.size, 0, none⟩) 1 1) 1 [.int .i64 u] :=
  ⟨rfl, .inr ⟨_, 1, _, rfl, hB, heap_alloc_new w _, Nat.le_refl _, by decide, rfl, rfl⟩⟩

end Go.Proofs.Ytpchllepboolhab
