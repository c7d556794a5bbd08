import Derived.Test.YtjkoambfecmglaaVYkz
import Derived.Test.YtjkoambfecmglaaJQ
namespace Go.Proofs.Ytjkoambfecmglaa
open Go.RowKit
set_option linter.unusedVariables false
set_option linter.unusedSimpArgs false
set_option maxRecDepth 100000
set_option maxHeartbeats 4000000 in
/-- slices.Clone of bytes -/
theorem clone_any (ao : Option Addr) (cap n : Nat) (bs : List Nat) (w : World) (h : BRow w ao cap bs) (hn : bs.length = n) :
    Calls Try.prog 42 #[.slice ao n cap] w fun e w' => ∃ co cc, e = .returned (.slice co n cc) ∧ w'.ownsRow w.heap.size 5 1 (.slice co n cc) n (bs.map bv) ∧ Below w.heap.size w w' := by
  subst hn
  cases ao with
  | none =>
    obtain ⟨h1, h2⟩ := h.nil rfl
    subst h1; subst h2
    have hnil : ∀ W, (binOp .eql 22 (.slice none 0 0) (.slice none 0 0)).run Try.prog W = .ok (.bool true) W := fun W => Lib.run_eql_slice_nil W 22 5 none 0 0 0 0 Try.underlying22
    clear h
    go_enter Try.func42, Try.ntmps42
    go_wp2
    go_ret
    exact ⟨none, 0, rfl, ⟨rfl, .inl ⟨rfl, rfl⟩⟩, Below.refl _ _⟩
  | some ad =>
    obtain ⟨i0, hi, hz0, hz1, hz2⟩ := info_parts Try.info5
    have HB : Hid (Below w.heap.size w (w.alloc (.cells #[] 5))) := (Below.refl _ w).alloc (Nat.le_refl _) _
    have HNw : Hid (∀ a, some ad = some a → ∀ j u, (bs.map bv)[j]? = some u → (w.alloc (.cells #[] 5)).cell? (a.add j) = some u) := (h.later HB.out).news
    have hlen := h.len
    have HO : Hid ((w.alloc (.cells #[] 5)).ownsRow w.heap.size 5 1 (.slice (some ⟨w.heap.size, 0, none⟩) 0 0) 0 []) := ⟨rfl, .inr ⟨w.heap.size, 0, #[], rfl, Nat.le_refl _, heap_new _ _, Nat.le_refl _, by unfold maxLen; omega, rfl, rfl⟩⟩
    have H1 : Hid (∀ u ∈ bs.map bv, u.oneCell' = true) := by
      intro u hu
      obtain ⟨x, _, rfl⟩ := List.mem_map.1 hu
      rfl
    have hnil : ∀ W, (binOp .eql 22 (.slice (some ad) bs.length cap) (.slice none 0 0)).run Try.prog W = .ok (.bool false) W := fun W => Lib.run_eql_slice_nil W 22 5 (some ad) bs.length cap 0 0 Try.underlying22
    clear h
    go_enter Try.func42, Try.ntmps42
    go_wp2_with (at_builtin; refine wpList_append_two _ rfl _ _ 22 rfl w.heap.size 5 i0 (.int .u8 0) 1 Try.underlying22 hi hz0 hz1 hz2 rfl _ 0 [] rfl HO.out (some ad) bs.length cap (bs.map bv) rfl (fun e => by cases e) (by simp) HNw.out H1.out (by unfold maxLen; omega) (by omega) (by simp) ?_)
    intro v' w1 hown hgrow _
    have HB1 : Hid (Below w.heap.size w w1) := HB.out.grown hgrow (by simp) (fun k e => by cases e; exact Nat.le_refl _)
    have HO1 : Hid (w1.ownsRow w.heap.size 5 1 v' bs.length (bs.map bv)) := by
      show w1.ownsRow _ _ _ _ _ _
      simpa using hown
    clear hgrow hown
    go_wp2
    go_ret
    rcases HO1.out.2 with ⟨h1, h2⟩ | ⟨g, c, cur, h1, _⟩
    · exact ⟨none, 0, by rw [h1, h2]; rfl, by have := HO1.out; rw [h1] at this; rw [h2] at this ⊢; exact this, HB1.out⟩
    · exact ⟨_, c, by rw [h1]; rfl, by have := HO1.out; rw [h1] at this; exact this, HB1.out⟩
end Go.Proofs.Ytjkoambfecmglaa
