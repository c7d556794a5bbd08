import Derived.Test.YtijafckdbhklmaaJF
import Derived.Test.YtijafckdbhklmaaPEcz
import Derived.Test.YtijafckdbhklmaaPEdz
namespace Go.Proofs.Ytijafckdbhklmaa.I
open Go.RowKit Go.Sort Go.Lib Go.Shelf Go.Proofs.Ytijafckdbhklmaa Classical
attribute [local go_sem] Oper.semAt_some
set_option linter.unusedVariables false
set_option linter.unusedSimpArgs false
set_option maxRecDepth 100000

/-- one call, whatever it is -/
theorem play_any {w0 w : World} {bp : Nat} {Z : Nat → Option Obj} {s t : Stt} (h : Pl w0 w bp Z s t) (K On lo hi v : Int) (hOn : 0 ≤ On) (n : Nat) (hn : n ≤ 1048576) (hs : lenS s ≤ n) (ht : lenS t ≤ n) :
    Calls Try.prog 11 #[.pointer (some ⟨bp, 0, none⟩), .agg (actC K On lo hi v)] w fun e w' => e = .returned (.bool true) ∧ ∃ s' t', Pl w0 w' bp Z s' t' ∧ lenS s' ≤ n + 1 ∧ lenS t' ≤ n + 1 := by
  obtain ⟨F, m0, m1, d0, d1, h⟩ := h
  have hs' : lenS s ≤ 1048576 := by omega
  have ht' : lenS t ≤ 1048576 := by omega
  have l1 := lenS_set s lo hi v
  have l2 := lenS_set t lo hi v
  have fin : ∀ {e : Ending} {w' : World} {a b : Stt}, e = .returned (.bool true) ∧ Pl w0 w' bp Z a b → lenS a ≤ n + 1 → lenS b ≤ n + 1 → e = .returned (.bool true) ∧ ∃ s' t', Pl w0 w' bp Z s' t' ∧ lenS s' ≤ n + 1 ∧ lenS t' ≤ n + 1 := fun h h1 h2 => ⟨h.1, _, _, h.2, h1, h2⟩
  have hk : On.tmod 2 = 0 ∨ On.tmod 2 = 1 := by rw [Int.tmod_eq_emod_of_nonneg hOn]; omega
  rcases hk with hk | hk
  · by_cases k1 : K = 1
    · subst k1; exact (play_set0 h On lo hi v hk hs' ht').mono fun e w' h => fin h (by omega) (by omega)
    by_cases k2 : K = 2
    · subst k2; exact (play_at0 h On lo hi v hk hs' ht').mono fun e w' h => fin h (by omega) (by omega)
    by_cases k3 : K = 3
    · subst k3; exact (play_runs0 h On lo hi v hk hs' ht').mono fun e w' h => fin h (by omega) (by omega)
    by_cases k4 : K = 4
    · subst k4
      cases hm : madeS t with
      | false => exact (play_copy_false_0 h On lo hi v hk hm hs' ht').mono fun e w' h => fin h (by omega) (by omega)
      | true => exact (play_copy_true_0 h On lo hi v hk hm hs' ht').mono fun e w' h => fin h (by omega) (by omega)
    by_cases k5 : K = 5
    · subst k5; exact (play_same0 h On lo hi v hk hs' ht').mono fun e w' h => fin h (by omega) (by omega)
    · exact (play_other0 h K On lo hi v k1 k2 k3 k4 k5 hk hs' ht').mono fun e w' h => fin h (by omega) (by omega)
  · by_cases k1 : K = 1
    · subst k1; exact (play_set1 h On lo hi v hk hs' ht').mono fun e w' h => fin h (by omega) (by omega)
    by_cases k2 : K = 2
    · subst k2; exact (play_at1 h On lo hi v hk hs' ht').mono fun e w' h => fin h (by omega) (by omega)
    by_cases k3 : K = 3
    · subst k3; exact (play_runs1 h On lo hi v hk hs' ht').mono fun e w' h => fin h (by omega) (by omega)
    by_cases k4 : K = 4
    · subst k4
      cases hm : madeS s with
      | false => exact (play_copy_false_1 h On lo hi v hk hm hs' ht').mono fun e w' h => fin h (by omega) (by omega)
      | true => exact (play_copy_true_1 h On lo hi v hk hm hs' ht').mono fun e w' h => fin h (by omega) (by omega)
    by_cases k5 : K = 5
    · subst k5; exact (play_same1 h On lo hi v hk hs' ht').mono fun e w' h => fin h (by omega) (by omega)
    · exact (play_other1 h K On lo hi v k1 k2 k3 k4 k5 hk hs' ht').mono fun e w' h => fin h (by omega) (by omega)
theorem new_pm (z f : Int) (w : World) (n0 : Nat) (hn : n0 ≤ w.heap.size) (h0 : 0 ≤ z) (h1 : z ≤ 1099511627776) :
    Calls Try.prog 8 #[.int .i64 z, .int .i64 f] w fun e w' => ∃ bm P', e = .returned (.tuple #[.pointer (some ⟨bm, 0, none⟩), .int .i64 0]) ∧ PM w' P' n0 (.pointer (some ⟨bm, 0, none⟩)) (some (z, f, [])) ∧ (∀ k, P' k → w.heap.size ≤ k ∧ k < w'.heap.size) ∧ Below w.heap.size w w' := by
  refine (new_any z f w h0 h1).mono ?_
  rintro e w' ⟨bm, vv, rfl, hm, hb⟩
  refine ⟨bm, fun k => k = bm ∨ vv.ownBlock = some k, rfl, ⟨h0, bm, vv, rfl, hm.down hn, .inl rfl, fun g e => .inr e⟩, ?_, hb⟩
  rintro k (rfl | e)
  · exact ⟨hm.base, hm.ltm⟩
  · have := row_lt hm.row k e
    exact ⟨this.2.1, this.1⟩
theorem new_pd (z f : Int) (w : World) (n0 : Nat) (hn : n0 ≤ w.heap.size) (h0 : 0 ≤ z) (h1 : z ≤ 1099511627776) :
    Calls Try.prog 9 #[.int .i64 z, .int .i64 f] w fun e w' => ∃ bm P', e = .returned (.tuple #[.pointer (some ⟨bm, 0, none⟩), .int .i64 0]) ∧ PD w' P' n0 (.pointer (some ⟨bm, 0, none⟩)) (some (z, f, [])) ∧ (∀ k, P' k → w.heap.size ≤ k ∧ k < w'.heap.size) ∧ Below w.heap.size w w' := by
  refine (dNew_any z f w h0 h1).mono ?_
  rintro e w' ⟨rfl, hm, hb⟩
  refine ⟨_, fun k => k = w.heap.size, rfl, ⟨h0, _, _, rfl, hm.down hn, rfl, fun g e => by cases e⟩, ?_, hb⟩
  rintro k rfl
  exact ⟨Nat.le_refl _, hm.ltm⟩
theorem new_pm_bad (z f : Int) (w : World) (n0 : Nat) (h : z < 0 ∨ 1099511627776 < z) :
    Calls Try.prog 8 #[.int .i64 z, .int .i64 f] w fun e w' => ∃ P', e = .returned (.tuple #[.pointer none, .int .i64 20]) ∧ PM w' P' n0 (.pointer none) none ∧ (∀ k, P' k → w.heap.size ≤ k ∧ k < w'.heap.size) ∧ Below w.heap.size w w' := by
  refine (new_bad z _ w h).mono ?_
  rintro e w' ⟨rfl, rfl⟩
  exact ⟨fun _ => False, rfl, rfl, fun k hk => hk.elim, Below.refl _ _⟩
theorem new_pd_bad (z f : Int) (w : World) (n0 : Nat) (hn : n0 ≤ w.heap.size) (h : z < 0 ∨ 1099511627776 < z) :
    Calls Try.prog 9 #[.int .i64 z, .int .i64 f] w fun e w' => ∃ bm P', e = .returned (.tuple #[.pointer (some ⟨bm, 0, none⟩), .int .i64 20]) ∧ PD w' P' n0 (.pointer (some ⟨bm, 0, none⟩)) none ∧ (∀ k, P' k → w.heap.size ≤ k ∧ k < w'.heap.size) ∧ Below w.heap.size w w' := by
  refine (dNew_bad z f w h).mono ?_
  rintro e w' ⟨rfl, rfl⟩
  refine ⟨_, fun k => k = w.heap.size, rfl, ⟨_, rfl, heap_alloc_new w _, rfl, hn⟩, ?_, (Below.refl _ w).alloc (Nat.le_refl _) _⟩
  rintro k rfl
  exact ⟨Nat.le_refl _, by simp⟩
/-- the pair while it is made -/
def PrK (w0 w : World) (bp : Nat) (Z : Nat → Option Obj) (c : Nat) : Prop := ∃ F m0 m1 d0 d1 s t, Pr w0 w bp Z c F m0 m1 d0 d1 s t s t ∧ lenS s = 0 ∧ lenS t = 0
/-- one call of a script, as it lies -/
abbrev Ac := Int × Int × Int × Int × Int
def Acts (w : World) (ao : Option Addr) (l : List Ac) : Prop := ∀ (k : Nat) (a : Ac), l[k]? = some a → ∃ b off, ao = some ⟨b, off, none⟩ ∧ 0 ≤ a.2.1 ∧ w.cell? ⟨b, off + k * 5, none⟩ = some (.int .i64 a.1) ∧ w.cell? ⟨b, off + k * 5 + 1, none⟩ = some (.int .u8 a.2.1) ∧ w.cell? ⟨b, off + k * 5 + 2, none⟩ = some (.int .i64 a.2.2.1) ∧ w.cell? ⟨b, off + k * 5 + 3, none⟩ = some (.int .i64 a.2.2.2.1) ∧ w.cell? ⟨b, off + k * 5 + 4, none⟩ = some (.int .i64 a.2.2.2.2)
theorem Acts.later {w w' : World} {ao : Option Addr} {l : List Ac} (h : Acts w ao l) (hb : Below w.heap.size w w') : Acts w' ao l := fun k a hk => by
  obtain ⟨b, off, e, h0, h1, h2, h3, h4, h5⟩ := h k a hk
  exact ⟨b, off, e, h0, cell_later hb h1, cell_later hb h2, cell_later hb h3, cell_later hb h4, cell_later hb h5⟩
end Go.Proofs.Ytijafckdbhklmaa.I
