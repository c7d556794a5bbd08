import Derived.Test.YtijafckdbhklmabYSB
import Derived.Test.YtijafckdbhklmabXV
import Derived.Test.YtijafckdbhklmabXFB
import Derived.Deep.RegionHeld3
namespace Go.Proofs.Ytijafckdbhklmab.B
open Go.RowKit Go.Sort Go.Lib Go.Shelf
attribute [local go_sem] Oper.semAt_some
set_option linter.unusedVariables false
set_option linter.unusedSimpArgs false
set_option maxRecDepth 100000

abbrev BIG : Int := 1099511627776
abbrev TPick : TypeId := 78
/-- the three ways to pick -/
def PickIs (fp : Nat) (p : Bool → Bool → Bool) : Prop := (fp = 49 ∧ p = fun a b => a || b) ∨ (fp = 50 ∧ p = fun a b => a && !b) ∨ (fp = 51 ∧ p = fun a b => a && b)
theorem union1_any (x y : Bool) (W : World) : Calls Try.prog 49 #[.bool x, .bool y] W fun e w' => e = .returned (.bool (x || y)) ∧ w' = W := by
  cases x <;> cases y
  all_goals
    go_enter Try.func49, Try.ntmps49
    go_wp2
    go_ret
    exact ⟨rfl, rfl⟩
theorem minus1_any (x y : Bool) (W : World) : Calls Try.prog 50 #[.bool x, .bool y] W fun e w' => e = .returned (.bool (x && !y)) ∧ w' = W := by
  cases x <;> cases y
  all_goals
    go_enter Try.func50, Try.ntmps50
    go_wp2
    go_ret
    exact ⟨rfl, rfl⟩
theorem meet1_any (x y : Bool) (W : World) : Calls Try.prog 51 #[.bool x, .bool y] W fun e w' => e = .returned (.bool (x && y)) ∧ w' = W := by
  cases x <;> cases y
  all_goals
    go_enter Try.func51, Try.ntmps51
    go_wp2
    go_ret
    exact ⟨rfl, rfl⟩
theorem keptM_drew {W w' : World} {n bm : Nat} {v v' : Value} (h : KeptM (W.drewN n) w' bm v v') : KeptM W w' bm v v' := ⟨h.os, h.tape, h.output, h.size, h.block, h.fresh⟩
theorem below_drewB (w : World) (n : Nat) : Below w.heap.size w (w.drewN n) := by
  have := below_of_grow w.heap.size w n #[] (Nat.le_refl _)
  exact ⟨this.os, this.tape, this.output, Nat.le_refl _, fun _ _ => rfl⟩
set_option maxHeartbeats 4000000 in
theorem picked1_any {W : World} {B bm mb pb fp : Nat} {v : Value} {rs : List (Rn Bool)} {p : Bool → Bool → Bool} (hm : MO W B bm v 1099511627776 rs) (bM : Boxed W mb TMapP (.pointer (some ⟨bm, 0, none⟩))) (bP : Boxed W pb TPick (.func (.func fp) #[] #[])) (hp : PickIs fp p) (lo hi : Int) (x y : Bool) :
    Calls Try.prog 62 #[.int .i64 lo, .int .i64 hi, .bool x, .bool y, .pointer (some ⟨mb, 0, none⟩), .pointer (some ⟨pb, 0, none⟩)] W fun e w' => e = .returned (.bool true) ∧ SetTo W B bm v 1099511627776 (setR 1099511627776 rs lo hi (p x y)) w' := by
  have c0 := bM.cell
  have c1 := bP.cell
  have HS : Hid (∀ m (z : Bool), Calls Try.prog 60 #[.pointer (some ⟨bm, 0, none⟩), .int .i64 lo, .int .i64 hi, .bool z] (W.drewN m) fun e w' => (∃ r, e = .returned (.int .i64 r)) ∧ (w'.cell? ⟨mb, 0, none⟩ = some (.pointer (some ⟨bm, 0, none⟩)) ∧ w'.cell? ⟨pb, 0, none⟩ = some (.func (.func fp) #[] #[])) ∧ SetTo W B bm v 1099511627776 (setR 1099511627776 rs lo hi z) w') := fun m z => by
    refine (set_any (hm.later (below_drewB W m)) lo hi z).mono ?_
    rintro e w' ⟨he, v', h1, h2⟩
    have h2' := keptM_drew h2
    have hrun : ∀ g, v.ownBlock = some g → ∃ cur fr, W.heap[g]? = some (.cells cur TRun fr) := by
      intro g hg
      rcases hm.row.2 with ⟨hv, _⟩ | ⟨g', cap, cur, hv, _, hc, _⟩
      · rw [hv] at hg; cases hg
      · rw [hv] at hg
        simp only [Value.ownBlock, Option.some.injEq] at hg
        subst hg
        exact ⟨cur, _, hc⟩
    have key : ∀ (k t : Nat) (u : Value), Boxed W k t u → t ≠ TRun → t ≠ TMap → Boxed w' k t u := fun k t u hb ht ht2 => by
      refine (h2'.block k hb.lt (fun e => ?_) (fun e => ?_)).trans hb
      · subst e
        have := hm.blk.symm.trans hb
        simp at this
      · obtain ⟨cur, fr, hc⟩ := hrun k e
        have := hc.symm.trans hb
        simp at this
        exact ht this.2.1.symm
    exact ⟨⟨_, he⟩, ⟨(key _ _ _ bM (by decide) (by decide)).cell, (key _ _ _ bP (by decide) (by decide)).cell⟩, v', h1, h2'⟩
  clear hm bM bP
  rcases hp with ⟨rfl, rfl⟩ | ⟨rfl, rfl⟩ | ⟨rfl, rfl⟩
  · go_enter Try.func62, Try.ntmps62
    go_wp2
    go_region_held3 (fun w' => w'.cell? ⟨mb, 0, none⟩ = some (.pointer (some ⟨bm, 0, none⟩)) ∧ w'.cell? ⟨pb, 0, none⟩ = some (.func (.func 49) #[] #[])) (first | go_keep | exact s0) (first | (go_at_call 49; refine (union1_any _ _ _).mono ?_; rintro e w9 ⟨rfl, hw9⟩; rw [hw9]; clear hw9) | (go_at_call 60; refine (HS.out _ _).mono ?_; rintro e w9 ⟨⟨r9, rfl⟩, s0, s1⟩))
    go_wp2
    go_ret
    exact ⟨rfl, s1⟩
  · go_enter Try.func62, Try.ntmps62
    go_wp2
    go_region_held3 (fun w' => w'.cell? ⟨mb, 0, none⟩ = some (.pointer (some ⟨bm, 0, none⟩)) ∧ w'.cell? ⟨pb, 0, none⟩ = some (.func (.func 50) #[] #[])) (first | go_keep | exact s0) (first | (go_at_call 50; refine (minus1_any _ _ _).mono ?_; rintro e w9 ⟨rfl, hw9⟩; rw [hw9]; clear hw9) | (go_at_call 60; refine (HS.out _ _).mono ?_; rintro e w9 ⟨⟨r9, rfl⟩, s0, s1⟩))
    go_wp2
    go_ret
    exact ⟨rfl, s1⟩
  · go_enter Try.func62, Try.ntmps62
    go_wp2
    go_region_held3 (fun w' => w'.cell? ⟨mb, 0, none⟩ = some (.pointer (some ⟨bm, 0, none⟩)) ∧ w'.cell? ⟨pb, 0, none⟩ = some (.func (.func 51) #[] #[])) (first | go_keep | exact s0) (first | (go_at_call 51; refine (meet1_any _ _ _).mono ?_; rintro e w9 ⟨rfl, hw9⟩; rw [hw9]; clear hw9) | (go_at_call 60; refine (HS.out _ _).mono ?_; rintro e w9 ⟨⟨r9, rfl⟩, s0, s1⟩))
    go_wp2
    go_ret
    exact ⟨rfl, s1⟩
end Go.Proofs.Ytijafckdbhklmab.B
