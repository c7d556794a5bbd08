import Derived.Test.YtijafckdbhklmaaJB
import Derived.Test.YtijafckdbhklmaaPD7z
import Derived.Deep.RegionHeld3
namespace Go.Proofs.Ytijafckdbhklmaa.I
open Go.RowKit Go.Sort Go.Lib Go.Shelf Go.Proofs.Ytijafckdbhklmaa
attribute [local go_sem] Oper.semAt_some
set_option linter.unusedVariables false
set_option linter.unusedSimpArgs false
set_option maxRecDepth 100000

/-- the document's Runs of a part without a place, or of a map that was not made -/
theorem dRuns_dead {w : World} {bd : Nat} {size : Int} (c0 : w.cell? ⟨bd, 0, none⟩ = some (.bool false)) (c1 : w.cell? ⟨bd, 1, none⟩ = some (.int .i64 size)) (lo hi : Int) :
    Calls Try.prog 17 #[.pointer (some ⟨bd, 0, none⟩), .int .i64 lo, .int .i64 hi] w fun e w' => e = .returned (.slice none 0 0) ∧ w' = w := by
  go_enter Try.func17, Try.ntmps17
  by_cases h0 : lo < 0
  · by_cases h1 : size < hi
    · go_wp2
      go_ret
      exact ⟨rfl, rfl⟩
    · go_wp2
      go_ret
      exact ⟨rfl, rfl⟩
  · by_cases h1 : size < hi
    · go_wp2
      go_ret
      exact ⟨rfl, rfl⟩
    · go_wp2
      go_ret
      exact ⟨rfl, rfl⟩
theorem dRuns_none {w : World} {bd : Nat} {size : Int} (c0 : w.cell? ⟨bd, 0, none⟩ = some (.bool true)) (c1 : w.cell? ⟨bd, 1, none⟩ = some (.int .i64 size)) (lo hi : Int) (h : min hi size ≤ max lo 0) :
    Calls Try.prog 17 #[.pointer (some ⟨bd, 0, none⟩), .int .i64 lo, .int .i64 hi] w fun e w' => e = .returned (.slice none 0 0) ∧ w' = w := by
  go_enter Try.func17, Try.ntmps17
  by_cases h0 : lo < 0
  · by_cases h1 : size < hi
    · have h2 : size ≤ 0 := by omega
      clear h
      go_wp2
      go_ret
      exact ⟨rfl, rfl⟩
    · have h2 : hi ≤ 0 := by omega
      clear h
      go_wp2
      go_ret
      exact ⟨rfl, rfl⟩
  · by_cases h1 : size < hi
    · have h2 : size ≤ lo := by omega
      clear h
      go_wp2
      go_ret
      exact ⟨rfl, rfl⟩
    · have h2 : hi ≤ lo := by omega
      clear h
      go_wp2
      go_ret
      exact ⟨rfl, rfl⟩
/-- the document's Runs of any part are the program's -/
theorem dRuns_any {w : World} {B bd : Nat} {sv : Value} {size first : Int} {S : List Put} (h : DM w B bd sv size first S) (lo hi : Int) (hs : 0 ≤ size) (hl : S.length ≤ 1048576) :
    Calls Try.prog 17 #[.pointer (some ⟨bd, 0, none⟩), .int .i64 lo, .int .i64 hi] w fun e w' => ∃ v, e = .returned v ∧ w'.ownsRow w.heap.size TEnt 3 v (cutA (runsL size first S) size lo hi).length (rcells E (cutA (runsL size first S) size lo hi)) ∧ Below w.heap.size w w' := by
  obtain ⟨t1, a1, m1⟩ := runsL_spec size first hs S
  by_cases hlt : max lo 0 < min hi size
  · have e1 : cutA (runsL size first S) size lo hi = docRuns size first S (max lo 0) (min hi size) := by
      unfold cutA; rw [if_pos hlt]
      exact (docRuns_cut t1 a1 m1 (by omega) hlt (by omega)).symm
    rw [e1]
    by_cases h0 : lo < 0
    · rw [show max lo 0 = 0 by omega] at hlt ⊢
      by_cases h1 : size < hi
      · rw [show min hi size = size by omega] at hlt ⊢
        exact dRuns_d h lo hi h0 h1 (Int.le_refl _) hlt (Int.le_refl _) hl
      · rw [show min hi size = hi by omega] at hlt ⊢
        exact dRuns_b h lo hi h0 h1 (Int.le_refl _) hlt (by omega) hl
    · rw [show max lo 0 = lo by omega] at hlt ⊢
      by_cases h1 : size < hi
      · rw [show min hi size = size by omega] at hlt ⊢
        exact dRuns_c h lo hi h0 h1 (by omega) hlt (Int.le_refl _) hl
      · rw [show min hi size = hi by omega] at hlt ⊢
        exact dRuns_a h lo hi h0 h1 (by omega) hlt (by omega) hl
  · have e1 : cutA (runsL size first S) size lo hi = [] := by unfold cutA; rw [if_neg hlt]
    rw [e1]
    refine (dRuns_none (h.c 0) (h.c 1) lo hi (by omega)).mono ?_
    rintro e w' ⟨rfl, rfl⟩
    exact ⟨_, rfl, World.ownsRow_nil _ _ _ _, Below.refl _ _⟩
/-- the document's Count -/
theorem dCount_any {w : World} {B bd : Nat} {sv : Value} {size first : Int} {S : List Put} (h : DM w B bd sv size first S) (hs : 0 ≤ size) (hl : S.length ≤ 1048576) :
    Calls Try.prog 14 #[.pointer (some ⟨bd, 0, none⟩)] w fun e w' => e = .returned (.int .i64 (runsL size first S).length) ∧ Below w.heap.size w w' := by
  have c1 : w.cell? ⟨bd, 1, none⟩ = some (.int .i64 size) := h.c 1
  have HR := dRuns_any h 0 size hs hl
  rw [cutA_all (runsL_spec size first hs S).1] at HR
  clear h
  generalize runsL size first S = rs at HR ⊢
  obtain ⟨n, hn⟩ : ∃ n, rs.length = n := ⟨_, rfl⟩
  rw [hn] at HR ⊢
  go_enter Try.func14, Try.ntmps14
  go_wp2_with (go_at_call 17; refine HR.mono ?_; rintro e w1 ⟨v1, rfl, ho, hb⟩; obtain ⟨ao, cp, rfl⟩ := own_slice ho; clear ho)
  go_ret
  exact ⟨rfl, hb⟩
theorem dCount_dead {w : World} {bd : Nat} {size : Int} (c0 : w.cell? ⟨bd, 0, none⟩ = some (.bool false)) (c1 : w.cell? ⟨bd, 1, none⟩ = some (.int .i64 size)) :
    Calls Try.prog 14 #[.pointer (some ⟨bd, 0, none⟩)] w fun e w' => e = .returned (.int .i64 0) ∧ w' = w := by
  have HR := dRuns_dead c0 c1 0 size
  go_enter Try.func14, Try.ntmps14
  go_wp2_with (go_at_call 17; refine HR.mono ?_; rintro e w9 ⟨rfl, hw9⟩; rw [hw9]; clear hw9)
  go_ret
  exact ⟨rfl, rfl⟩
theorem dSet_dead {w : World} {bd : Nat} (c0 : w.cell? ⟨bd, 0, none⟩ = some (.bool false)) (lo hi v : Int) :
    Calls Try.prog 28 #[.pointer (some ⟨bd, 0, none⟩), .int .i64 lo, .int .i64 hi, .int .i64 v] w fun e w' => e = .returned (.int .i64 1) ∧ w' = w := by
  go_enter Try.func28, Try.ntmps28
  go_wp2
  go_ret
  exact ⟨rfl, rfl⟩
theorem dAt_dead {w : World} {bd : Nat} (c0 : w.cell? ⟨bd, 0, none⟩ = some (.bool false)) (i : Int) :
    Calls Try.prog 29 #[.pointer (some ⟨bd, 0, none⟩), .int .i64 i] w fun e w' => e = .returned (.tuple #[.int .i64 0, .bool false]) ∧ w' = w := by
  go_enter Try.func29, Try.ntmps29
  go_wp2
  go_ret2
  exact ⟨rfl, rfl⟩
end Go.Proofs.Ytijafckdbhklmaa.I

namespace Go.Proofs.Ytijafckdbhklmaa.I
open Go.RowKit Go.Sort Go.Lib Go.Shelf Go.Proofs.Ytijafckdbhklmaa Classical
attribute [local go_sem] Oper.semAt_some
set_option linter.unusedVariables false
set_option linter.unusedSimpArgs false
set_option maxRecDepth 100000

/-- what a map is: not made, or its size, its first value and what was set -/
abbrev Stt := Option (Int × Int × List Put)
def lenS : Stt → Nat
  | none => 0
  | some (_, _, S) => S.length
def sizeS : Stt → Int
  | none => 0
  | some (size, _, _) => size
def madeS : Stt → Bool
  | none => false
  | some _ => true
def countS : Stt → Int
  | none => 0
  | some (size, first, S) => (runsL size first S).length
def runsS : Stt → Int → Int → List (Rn Int)
  | none, _, _ => []
  | some (size, first, S), lo, hi => cutA (runsL size first S) size lo hi
def setA : Stt → Int → Int → Int
  | none, _, _ => 1
  | some (size, _, _), lo, hi => setE size lo hi
def setS : Stt → Int → Int → Int → Stt
  | none, _, _, _ => none
  | some (size, first, S), lo, hi, x => if may size lo hi then some (size, first, S ++ [(lo, hi, x)]) else some (size, first, S)
def atV : Stt → Int → Int
  | none, _ => 0
  | some (size, first, S), i => if 0 ≤ i ∧ i < size then lastV size first S i else 0
def atB : Stt → Int → Bool
  | none, _ => false
  | some (size, _, _), i => decide (0 ≤ i ∧ i < size)
theorem setS_some (size first : Int) (S : List Put) (lo hi x : Int) : setS (some (size, first, S)) lo hi x = if may size lo hi then some (size, first, S ++ [(lo, hi, x)]) else some (size, first, S) := rfl
theorem setA_some (size first : Int) (S : List Put) (lo hi : Int) : setA (some (size, first, S)) lo hi = setE size lo hi := rfl
theorem atV_some (size first : Int) (S : List Put) (i : Int) : atV (some (size, first, S)) i = if 0 ≤ i ∧ i < size then lastV size first S i else 0 := rfl
theorem atB_some (size first : Int) (S : List Put) (i : Int) : atB (some (size, first, S)) i = decide (0 ≤ i ∧ i < size) := rfl
/-- the program's map -/
def PM (w : World) (P : Nat → Prop) (n0 : Nat) (m : Value) : Stt → Prop
  | none => m = .pointer none
  | some (size, first, S) => 0 ≤ size ∧ ∃ bm vm, m = .pointer (some ⟨bm, 0, none⟩) ∧ MO w n0 bm vm size (runsL size first S) ∧ P bm ∧ ∀ g, vm.ownBlock = some g → P g
/-- the document's map -/
def PD (w : World) (P : Nat → Prop) (n0 : Nat) (d : Value) : Stt → Prop
  | none => ∃ bd, d = .pointer (some ⟨bd, 0, none⟩) ∧ w.heap[bd]? = some (.cells #[.bool false, .int .i64 0, .int .i64 0, .slice none 0 0] TDM (0, 0)) ∧ P bd ∧ n0 ≤ bd
  | some (size, first, S) => 0 ≤ size ∧ ∃ bd sv, d = .pointer (some ⟨bd, 0, none⟩) ∧ DM w n0 bd sv size first S ∧ P bd ∧ ∀ g, sv.ownBlock = some g → P g
section
variable {w w' : World} {P : Nat → Prop} {n0 : Nat} {m d : Value} {s : Stt}
theorem KX.mono {S T : Nat → Prop} {A B : World} (h : KX S A B) (hs : ∀ k, S k → T k) : KX T A B := ⟨h.os, h.tape, h.output, h.size, fun k hk hn => h.block k hk (fun e => hn (hs k e))⟩
theorem PM.keep (h : PM w P n0 m s) (hk : ∀ k, k < w.heap.size → P k → w'.heap[k]? = w.heap[k]?) : PM w' P n0 m s := by
  match s, h with
  | none, h => exact h
  | some (size, first, S), ⟨h0, bm, vm, e, hm, p1, p2⟩ => exact ⟨h0, bm, vm, e, hm.same (hk _ hm.ltm p1) (fun g e => hk g (row_lt hm.row g e).1 (p2 g e)), p1, p2⟩
theorem PD.keep (h : PD w P n0 d s) (hk : ∀ k, k < w.heap.size → P k → w'.heap[k]? = w.heap[k]?) : PD w' P n0 d s := by
  match s, h with
  | none, ⟨bd, e, hb, p1, hn⟩ => exact ⟨bd, e, (hk bd (Array.getElem?_eq_some_iff.1 hb).1 p1).trans hb, p1, hn⟩
  | some (size, first, S), ⟨h0, bd, sv, e, hd, p1, p2⟩ => exact ⟨h0, bd, sv, e, ⟨(hk _ hd.ltm p1).trans hd.blk, owns_same hd.row (fun g e => hk g (row_lt hd.row g e).1 (p2 g e)), hd.base, hd.may⟩, p1, p2⟩
theorem PM.later (h : PM w P n0 m s) (hb : Below w.heap.size w w') : PM w' P n0 m s := h.keep (fun k hk _ => hb.block k hk)
theorem PD.later (h : PD w P n0 d s) (hb : Below w.heap.size w w') : PD w' P n0 d s := h.keep (fun k hk _ => hb.block k hk)
/-- the document's map in memory: made, and its size -/
theorem PD.cells (h : PD w P n0 d s) : ∃ bd, d = .pointer (some ⟨bd, 0, none⟩) ∧ w.cell? ⟨bd, 0, none⟩ = some (.bool (madeS s)) ∧ w.cell? ⟨bd, 1, none⟩ = some (.int .i64 (sizeS s)) ∧ P bd := by
  match s, h with
  | none, ⟨bd, e, hb, p1, hn⟩ =>
    refine ⟨bd, e, ?_, ?_, p1⟩
    · unfold World.cell?; rw [hb]; rfl
    · unfold World.cell?; rw [hb]; rfl
  | some (size, first, S), ⟨h0, bd, sv, e, hd, p1, p2⟩ => exact ⟨bd, e, hd.c 0, hd.c 1, p1⟩
theorem PM.ptr (h : PM w P n0 m s) : (madeS s = false ∧ m = .pointer none) ∨ (madeS s = true ∧ ∃ bm, m = .pointer (some ⟨bm, 0, none⟩)) := by
  match s, h with
  | none, h => exact .inl ⟨rfl, h⟩
  | some (size, first, S), ⟨h0, bm, vm, e, hm, p1, p2⟩ => exact .inr ⟨rfl, bm, e⟩
/-- what a Set leaves -/
def ChM (w w' : World) (P : Nat → Prop) (n0 : Nat) (m : Value) (s : Stt) : Prop := ∃ P', PM w' P' n0 m s ∧ KX P w w' ∧ ∀ k, P' k → P k ∨ (w.heap.size ≤ k ∧ k < w'.heap.size)
def ChD (w w' : World) (P : Nat → Prop) (n0 : Nat) (m : Value) (s : Stt) : Prop := ∃ P', PD w' P' n0 m s ∧ KX P w w' ∧ ∀ k, P' k → P k ∨ (w.heap.size ≤ k ∧ k < w'.heap.size)
theorem setR_no {size lo hi : Int} (x : Int) (rs : List (Rn Int)) (h : ¬ may size lo hi) : setR size rs lo hi x = rs := by
  unfold setR
  rw [if_neg (fun k => h ⟨k.1, by omega, k.2.2⟩)]
theorem pm_set (h : PM w P n0 m s) (lo hi x : Int) :
    Calls Try.prog 24 #[m, .int .i64 lo, .int .i64 hi, .int .i64 x] w fun e w' => e = .returned (.int .i64 (setA s lo hi)) ∧ ChM w w' P n0 m (setS s lo hi x) := by
  match s, h with
  | none, h =>
    rw [show m = .pointer none from h]
    refine (set_nil w _ _ _).mono ?_
    rintro e w' ⟨rfl, rfl⟩
    exact ⟨rfl, P, rfl, KX.refl _ _, fun k hk => .inl hk⟩
  | some (size, first, S), ⟨h0, bm, vm, e, hm, p1, p2⟩ =>
    subst e
    refine (set_any hm lo hi x).mono ?_
    rintro e w' ⟨rfl, v', hm', hk⟩
    refine ⟨rfl, fun k => k = bm ∨ v'.ownBlock = some k, ?_, ⟨hk.os, hk.tape, hk.output, hk.size, fun k hlt hn => hk.block k hlt (fun e => hn (e ▸ p1)) (fun e => hn (p2 k e))⟩, ?_⟩
    · rw [setS_some]
      by_cases hy : may size lo hi
      · rw [if_pos hy]
        exact ⟨h0, bm, v', rfl, by rw [runsL_snoc]; exact hm', .inl rfl, fun g e => .inr e⟩
      · rw [if_neg hy]
        rw [setR_no x _ hy] at hm'
        exact ⟨h0, bm, v', rfl, hm', .inl rfl, fun g e => .inr e⟩
    · rintro k (rfl | e)
      · exact .inl p1
      · rcases hk.fresh with e2 | e2
        · exact .inl (p2 k (e2.symm.trans e))
        · exact .inr ⟨e2 k e, (row_lt hm'.row k e).1⟩
theorem pd_set (h : PD w P n0 d s) (lo hi x : Int) (hl : lenS s ≤ 1099511627776) :
    Calls Try.prog 28 #[d, .int .i64 lo, .int .i64 hi, .int .i64 x] w fun e w' => e = .returned (.int .i64 (setA s lo hi)) ∧ ChD w w' P n0 d (setS s lo hi x) := by
  match s, h, hl with
  | none, h, _ =>
    obtain ⟨bd, rfl, c0, _, _⟩ := PD.cells (s := none) h
    refine (dSet_dead c0 _ _ _).mono ?_
    rintro e w' ⟨rfl, rfl⟩
    exact ⟨rfl, P, h, KX.refl _ _, fun k hk => .inl hk⟩
  | some (size, first, S), ⟨h0, bd, sv, e, hd, p1, p2⟩, hl =>
    subst e
    rw [setS_some, setA_some]
    by_cases hy : may size lo hi
    · rw [if_pos hy]
      refine (dSet_yes hd lo hi x hy hl).mono ?_
      rintro e w' ⟨rfl, sv', hd', hk, hf⟩
      refine ⟨by rw [setE_ok hy.1 hy.2.1 hy.2.2], fun k => k = bd ∨ sv'.ownBlock = some k, ⟨h0, bd, sv', rfl, hd', .inl rfl, fun g e => .inr e⟩, hk.mono (fun k hs => hs.elim (fun e => e ▸ p1) (p2 k)), ?_⟩
      rintro k (rfl | e)
      · exact .inl p1
      · rcases hf with e2 | e2
        · exact .inl (p2 k (e2.symm.trans e))
        · exact .inr ⟨e2 k e, (row_lt hd'.row k e).1⟩
    · rw [if_neg hy]
      refine (dSet_no hd lo hi x hy).mono ?_
      rintro e w' ⟨rfl, rfl⟩
      refine ⟨?_, P, ⟨h0, bd, sv, rfl, hd, p1, p2⟩, KX.refl _ _, fun k hk => .inl hk⟩
      unfold setE; rw [if_neg hy]
theorem pm_at (h : PM w P n0 m s) (i : Int) :
    Calls Try.prog 23 #[m, .int .i64 i] w fun e w' => e = .returned (.tuple #[.int .i64 (atV s i), .bool (atB s i)]) ∧ Below w.heap.size w w' := by
  match s, h with
  | none, h =>
    rw [show m = .pointer none from h]
    refine (at_nil w i).mono ?_
    rintro e w' ⟨rfl, rfl⟩
    exact ⟨rfl, Below.refl _ _⟩
  | some (size, first, S), ⟨h0, bm, vm, e, hm, p1, p2⟩ =>
    subst e
    rw [atV_some, atB_some]
    by_cases hi : 0 ≤ i ∧ i < size
    · rw [if_pos hi, decide_eq_true hi]
      exact at_val hm i _ (((runsL_spec size first h0 S).2.2 i _).2 ⟨hi.1, hi.2, rfl⟩)
    · rw [if_neg hi, decide_eq_false hi]
      refine (at_out hm i (by omega)).mono ?_
      rintro e w' ⟨rfl, rfl⟩
      exact ⟨rfl, Below.refl _ _⟩
theorem pd_at (h : PD w P n0 d s) (i : Int) (hl : lenS s ≤ 1099511627776) :
    Calls Try.prog 29 #[d, .int .i64 i] w fun e w' => e = .returned (.tuple #[.int .i64 (atV s i), .bool (atB s i)]) ∧ w' = w := by
  match s, h, hl with
  | none, h, _ =>
    obtain ⟨bd, rfl, c0, _, _⟩ := PD.cells (s := none) h
    exact dAt_dead c0 i
  | some (size, first, S), ⟨h0, bd, sv, e, hd, p1, p2⟩, hl =>
    subst e
    rw [atV_some, atB_some]
    by_cases hi : 0 ≤ i ∧ i < size
    · rw [if_pos hi, decide_eq_true hi]
      exact dAt_in hd i hi.1 hi.2 hl
    · rw [if_neg hi, decide_eq_false hi]
      exact dAt_out hd i (by omega)
theorem pm_runs (h : PM w P n0 m s) (lo hi : Int) :
    Calls Try.prog 16 #[m, .int .i64 lo, .int .i64 hi] w fun e w' => ∃ v, e = .returned v ∧ w'.ownsRow w.heap.size TEnt 3 v (runsS s lo hi).length (rcells E (runsS s lo hi)) ∧ Below w.heap.size w w' := by
  match s, h with
  | none, h =>
    rw [show m = .pointer none from h]
    exact runsN_any w lo hi
  | some (size, first, S), ⟨h0, bm, vm, e, hm, p1, p2⟩ =>
    subst e
    exact runsP_any hm lo hi
theorem pd_runs (h : PD w P n0 d s) (lo hi : Int) (hl : lenS s ≤ 1048576) :
    Calls Try.prog 17 #[d, .int .i64 lo, .int .i64 hi] w fun e w' => ∃ v, e = .returned v ∧ w'.ownsRow w.heap.size TEnt 3 v (runsS s lo hi).length (rcells E (runsS s lo hi)) ∧ Below w.heap.size w w' := by
  match s, h, hl with
  | none, h, _ =>
    obtain ⟨bd, rfl, c0, c1, _⟩ := PD.cells (s := none) h
    refine (dRuns_dead c0 c1 lo hi).mono ?_
    rintro e w' ⟨rfl, rfl⟩
    exact ⟨_, rfl, World.ownsRow_nil _ _ _ _, Below.refl _ _⟩
  | some (size, first, S), ⟨h0, bd, sv, e, hd, p1, p2⟩, hl =>
    subst e
    exact dRuns_any hd lo hi h0 hl
theorem pm_count (h : PM w P n0 m s) : Calls Try.prog 13 #[m] w fun e w' => e = .returned (.int .i64 (countS s)) ∧ w' = w := by
  match s, h with
  | none, h =>
    rw [show m = .pointer none from h]
    exact count_nil w
  | some (size, first, S), ⟨h0, bm, vm, e, hm, p1, p2⟩ =>
    subst e
    exact count_len hm
theorem pd_count (h : PD w P n0 d s) (hl : lenS s ≤ 1048576) : Calls Try.prog 14 #[d] w fun e w' => e = .returned (.int .i64 (countS s)) ∧ Below w.heap.size w w' := by
  match s, h, hl with
  | none, h, _ =>
    obtain ⟨bd, rfl, c0, c1, _⟩ := PD.cells (s := none) h
    refine (dCount_dead c0 c1).mono ?_
    rintro e w' ⟨rfl, rfl⟩
    exact ⟨rfl, Below.refl _ _⟩
  | some (size, first, S), ⟨h0, bd, sv, e, hd, p1, p2⟩, hl =>
    subst e
    exact dCount_any hd h0 hl
theorem pm_size (h : PM w P n0 m s) : Calls Try.prog 12 #[m] w fun e w' => e = .returned (.int .i64 (sizeS s)) ∧ w' = w := by
  match s, h with
  | none, h =>
    rw [show m = .pointer none from h]
    exact size_nil w
  | some (size, first, S), ⟨h0, bm, vm, e, hm, p1, p2⟩ =>
    subst e
    exact size_any hm
end
end Go.Proofs.Ytijafckdbhklmaa.I

namespace Go.Proofs.Ytijafckdbhklmaa.I
open Go.RowKit Go.Sort Go.Lib Go.Shelf Go.Proofs.Ytijafckdbhklmaa Classical
attribute [local go_sem] Oper.semAt_some
set_option linter.unusedVariables false
set_option linter.unusedSimpArgs false
set_option maxRecDepth 100000

theorem run_append_ents {w : World} {base B : Nat} {v vx : Value} {l : List Put} (ty : TypeId) (hown : w.ownsRow base TEnt 3 v 0 []) (hsl : w.ownsRow B TEnt 3 vx l.length (qcells l)) (hlen : l.length ≤ 1099511627776) (hbase : base ≤ w.heap.size) :
    ∃ v' w', (Builtin.append_ #[38, 38] ty #[v, vx]).run Try.prog w = .ok v' w' ∧ w'.ownsRow base TEnt 3 v' l.length (qcells l) ∧ w.grownBy w' v.ownBlock := by
  obtain ⟨i0, hi, hz0, hz1, hz2⟩ := info_parts infoEnt
  rcases hsl.2 with ⟨rfl, h0⟩ | ⟨g, cap, cur, rfl, hr⟩
  · obtain rfl : l = [] := by cases l with | nil => rfl | cons a t => simp at h0
    exact ⟨v, w, run_append_owned_none w base TEnts ty TEnt i0 3 Try.underlying38 hi v 0 [] hown, by simpa [qcells] using hown, ⟨rfl, rfl, rfl, Nat.le_refl _, fun _ _ _ => rfl⟩⟩
  · obtain ⟨v', w', h1, h2, h3, _⟩ := run_append_own w base TEnts ty TEnt i0 _ 3 24 Try.underlying38 hi hz0 hz1 hz2 rfl (by decide) v 0 [] hown ⟨g, 0, none⟩ l.length cap (qcells l) (qcells_length l) (fun j u hu => by have := hsl.cells (g := g) rfl j u hu; exact this) (qcells_one l) (by unfold maxLen; omega) (by omega) hbase
    exact ⟨v', w', h1, by simpa using h2, h3⟩
theorem step_append_ents {w : World} {ops : Array Oper} {o : Oper} {a : Act} {K : Act → World → Prop} {Q : Exit → Act → World → Prop} {E : Prop} (hgd : o.guard = none) (s x : Operand)
    (ho : o.op = .call { callee := .builtin .append, args := #[s, x], argTypes := #[38, 38] }) (base B : Nat) (v : Value) (hs : a.eval s = v) (hown : w.ownsRow base TEnt 3 v 0 [])
    (vx : Value) (l : List Put) (hx : a.eval x = vx) (hsl : w.ownsRow B TEnt 3 vx l.length (qcells l)) (hlen : l.length ≤ 1099511627776) (hbase : base ≤ w.heap.size)
    (h : ∀ v' w', w'.ownsRow base TEnt 3 v' l.length (qcells l) → w.grownBy w' v.ownBlock → K (a.put o.dst v') w') :
    if Region.wanted o (yielded ops a.tmps) = true then Oper.wp Try.prog o a w K Q else E := by
  have hw : Region.wanted o (yielded ops a.tmps) = true := by simp [Region.wanted, hgd]
  rw [if_pos hw]
  obtain ⟨v', w', hr, h2, h3⟩ := run_append_ents o.type hown hsl hlen hbase
  unfold Oper.wp execOp
  simp only [ho, resolve, invoke, builtin, Sem.run_bind, Sem.run_pure, Result.andThen_ok, List.map_toArray, List.map_cons, List.map_nil, hs, hx, hr]
  exact h v' w' h2 h3
set_option maxHeartbeats 8000000 in
theorem dCopy_any {w : World} {B bd : Nat} {sv : Value} {size first : Int} {S : List Put} (h : DM w B bd sv size first S) (hl : S.length ≤ 1099511627776) :
    Calls Try.prog 31 #[.pointer (some ⟨bd, 0, none⟩)] w fun e w' => ∃ bc sc, e = .returned (.pointer (some ⟨bc, 0, none⟩)) ∧ DM w' w.heap.size bc sc size first S ∧ Below w.heap.size w w' := by
  have c0 : w.cell? ⟨bd, 0, none⟩ = some (.bool true) := h.c 0
  have c1 : w.cell? ⟨bd, 1, none⟩ = some (.int .i64 size) := h.c 1
  have c2 : w.cell? ⟨bd, 2, none⟩ = some (.int .i64 first) := h.c 2
  have c3 : w.cell? ⟨bd, 3, none⟩ = some sv := h.c 3
  have HD : Hid (DM w B bd sv size first S) := h
  have hlt := h.ltm
  clear h
  go_enter Try.func31, Try.ntmps31
  go_wp2
  go_region_held3 (fun w' => w'.cell? ⟨bd, 0, none⟩ = some (.bool true) ∧ w'.cell? ⟨bd, 1, none⟩ = some (.int .i64 size) ∧ w'.cell? ⟨bd, 2, none⟩ = some (.int .i64 first)) (first | exact ⟨c0, c1, c2⟩ | go_keep) (fail)
  have c3' : ((w.alloc (.cells #[.bool true, .int .i64 size, .int .i64 first, .slice none 0 0] 40)).drew).cell? ⟨bd, 3, none⟩ = some sv := cell_later (below_drew ((Below.refl _ w).alloc (Nat.le_refl _) _)) c3
  have n3 : ((w.alloc (.cells #[.bool true, .int .i64 size, .int .i64 first, .slice none 0 0] 40)).drew).heap[w.heap.size]? = some (.cells #[.bool true, .int .i64 size, .int .i64 first, .slice none 0 0] 40 (0, 0)) := heap_alloc_new w _
  obtain ⟨W1, hW1⟩ : ∃ W1, W1 = (w.alloc (.cells #[.bool true, .int .i64 size, .int .i64 first, .slice none 0 0] 40)).drew := ⟨_, rfl⟩
  have hb1 : Below w.heap.size w W1 := by rw [hW1]; exact below_drew ((Below.refl _ w).alloc (Nat.le_refl _) _)
  have hs1 : W1.heap.size = w.heap.size + 1 := by rw [hW1]; exact World.size_alloc w _
  rw [← hW1] at c3' n3 ⊢
  have n3c : W1.cell? ⟨w.heap.size, 3, none⟩ = some (.slice none 0 0) := by unfold World.cell?; rw [n3]; rfl
  have HD1 : Hid (DM W1 B bd sv size first S) := HD.out.later hb1
  have HN3 : Hid (W1.heap[w.heap.size]? = some (.cells #[.bool true, .int .i64 size, .int .i64 first, .slice none 0 0] 40 (0, 0))) := n3
  have HB1 : Hid (Below w.heap.size w W1) := hb1
  have HS1 : Hid (W1.heap.size = w.heap.size + 1) := hs1
  clear c0 c1 c2 c3 hW1 n3 hb1 hs1
  go_wp2
  go_region_law (refine step_append_ents (by rfl) _ _ (by rfl) w.heap.size B _ (by rfl) (World.ownsRow_nil _ _ _ _) _ S (by rfl) HD1.out.row hl (by show w.heap.size ≤ W1.heap.size; rw [HS1.out]; omega) ?_; intro v' w2 hown hgrow; obtain ⟨ag, cp, rfl⟩ := own_slice hown; have hnb : w2.heap[w.heap.size]? = W1.heap[w.heap.size]? := hgrow.block w.heap.size (by show w.heap.size < W1.heap.size; rw [HS1.out]; omega) (fun e => by simp [Value.ownBlock] at e); have q4 : w2.frozen? ⟨w.heap.size, 3, none⟩ = false := (by unfold World.frozen?; rw [hnb, HN3.out]; rfl); have q3 : w2.cell? ⟨w.heap.size, 3, none⟩ = some (.slice none 0 0) := (by unfold World.cell?; rw [hnb, HN3.out]; rfl))
  all_goals
    go_wp2
    go_ret
    have hsz := hgrow.size
    have hW2 : Below w.heap.size w w2 := ((below_drew HB1.out).grown hgrow (by show w.heap.size ≤ W1.heap.size; rw [HS1.out]; omega) (fun b hb => by simp [Value.ownBlock] at hb))
    refine ⟨_, _, rfl, ⟨blk_set (hnb.trans HN3.out) 3 _, ?_, Nat.le_refl _, HD1.out.may⟩, hW2.setCell (p := ⟨w.heap.size, 3, none⟩) (Nat.le_refl _) _⟩
    refine owns_same hown (fun g e => Below.heap_setCell _ _ _ _ (fun e2 => ?_))
    obtain ⟨_, _, cs, h1⟩ := row_lt hown g e
    have e3 : g = w.heap.size := e2
    rw [e3, hnb, HN3.out] at h1
    simp [TEnt] at h1
end Go.Proofs.Ytijafckdbhklmaa.I

namespace Go.Proofs.Ytijafckdbhklmaa.I
open Go.RowKit Go.Sort Go.Lib Go.Shelf Go.Proofs.Ytijafckdbhklmaa Classical
attribute [local go_sem] Oper.semAt_some
set_option linter.unusedVariables false
set_option linter.unusedSimpArgs false
set_option maxRecDepth 100000

theorem neqEnt (a b c d e f : Int) (w : World) : (binOp .neq TEnt (.agg #[.int .i64 a, .int .i64 b, .int .i64 c]) (.agg #[.int .i64 d, .int .i64 e, .int .i64 f])).run Try.prog w = .ok (.bool (!(a == d && b == e && c == f))) w := by
  have u3 := Try.underlying2
  have a3 := Try.isAgg2
  have z3 := Try.sizeOf2
  have u4 := Try.underlying3
  have a4 := Try.isAgg3
  have z4 := Try.sizeOf3
  have hS : Try.prog.underlying 69 = some (.struct (Try.prog.fieldsOf 69)) := by kernel_rfl
  have hp : Try.prog.stoodInHeld 69 = false := by kernel_rfl
  rw [run_neq_struct, show (10000 : Nat) = 9999 + 1 from rfl, run_equalIn_agg w 9999 69 _ _ hS hp]
  simp only [Program.fieldsOf, Try.underlying69]
  go_simp
  by_cases h1 : a = d <;> by_cases h2 : b = e <;> by_cases h3 : c = f <;> simp [h1, h2, h3]
/-- the document's Same, where one of the two was not made -/
theorem dSame_dead {w : World} {ba bb : Nat} (x y : Bool) (a0 : w.cell? ⟨ba, 0, none⟩ = some (.bool x)) (b0 : w.cell? ⟨bb, 0, none⟩ = some (.bool y)) (h : x = false ∨ y = false) :
    Calls Try.prog 32 #[.pointer (some ⟨ba, 0, none⟩), .pointer (some ⟨bb, 0, none⟩)] w fun e w' => e = .returned (.bool (x == y)) ∧ Below w.heap.size w w' := by
  rcases (show (x = false ∧ y = false) ∨ (x = false ∧ y = true) ∨ (x = true ∧ y = false) by cases x <;> cases y <;> simp_all) with ⟨rfl, rfl⟩ | ⟨rfl, rfl⟩ | ⟨rfl, rfl⟩
  all_goals
    clear h
    go_enter Try.func32, Try.ntmps32
    go_wp2
    go_region
    go_wp2
    go_ret
    exact ⟨rfl, below_drew (Below.refl _ _)⟩
theorem dSame_size {w : World} {ba bb : Nat} {s t : Int} (a0 : w.cell? ⟨ba, 0, none⟩ = some (.bool true)) (b0 : w.cell? ⟨bb, 0, none⟩ = some (.bool true)) (a1 : w.cell? ⟨ba, 1, none⟩ = some (.int .i64 s)) (b1 : w.cell? ⟨bb, 1, none⟩ = some (.int .i64 t)) (h : s ≠ t) :
    Calls Try.prog 32 #[.pointer (some ⟨ba, 0, none⟩), .pointer (some ⟨bb, 0, none⟩)] w fun e w' => e = .returned (.bool false) ∧ Below w.heap.size w w' := by
  have hb : (s == t) = false := by simpa using h
  go_enter Try.func32, Try.ntmps32
  go_wp2
  go_region
  go_wp2
  go_ret
  exact ⟨rfl, below_drew (Below.refl _ _)⟩
set_option maxHeartbeats 8000000 in
theorem dSame_any {w : World} {ba bb : Nat} {size : Int} {ra rb : List (Rn Int)} (a0 : w.cell? ⟨ba, 0, none⟩ = some (.bool true)) (b0 : w.cell? ⟨bb, 0, none⟩ = some (.bool true)) (a1 : w.cell? ⟨ba, 1, none⟩ = some (.int .i64 size)) (b1 : w.cell? ⟨bb, 1, none⟩ = some (.int .i64 size))
    (hl : ra.length ≤ 1099511627776)
    (HA : Hid (∀ W, Below w.heap.size w W → Calls Try.prog 17 #[.pointer (some ⟨ba, 0, none⟩), .int .i64 0, .int .i64 size] W fun e w' => ∃ v, e = .returned v ∧ w'.ownsRow W.heap.size TEnt 3 v ra.length (rcells E ra) ∧ Below W.heap.size W w'))
    (HB : Hid (∀ W, Below w.heap.size w W → Calls Try.prog 17 #[.pointer (some ⟨bb, 0, none⟩), .int .i64 0, .int .i64 size] W fun e w' => ∃ v, e = .returned v ∧ w'.ownsRow W.heap.size TEnt 3 v rb.length (rcells E rb) ∧ Below W.heap.size W w')) :
    Calls Try.prog 32 #[.pointer (some ⟨ba, 0, none⟩), .pointer (some ⟨bb, 0, none⟩)] w fun e w' => e = .returned (.bool (decide (ra = rb))) ∧ Below w.heap.size w w' := by
  obtain ⟨n, hn⟩ : ∃ n, ra.length = n := ⟨_, rfl⟩
  obtain ⟨m, hm⟩ : ∃ m, rb.length = m := ⟨_, rfl⟩
  have HN : Hid (ra.length = n) := hn
  have HM : Hid (rb.length = m) := hm
  have HPa : Hid (∀ W, Below w.heap.size w W → Calls Try.prog 17 #[.pointer (some ⟨ba, 0, none⟩), .int .i64 0, .int .i64 size] W fun e w' => ∃ v, e = .returned v ∧ (∃ c k, v = .slice c n k ∧ Hid (∀ W', Below w'.heap.size w' W' → ∀ j r, ra[j]? = some r → ∃ g, c = some ⟨g, 0, none⟩ ∧ W'.cell? ⟨g, j * 3, none⟩ = some (.int .i64 r.lo) ∧ W'.cell? ⟨g, j * 3 + 1, none⟩ = some (.int .i64 r.hi) ∧ W'.cell? ⟨g, j * 3 + 2, none⟩ = some (.int .i64 r.v))) ∧ Below W.heap.size W w') := fun W hW => (HA.out W hW).mono (by
    rintro e w' ⟨v, rfl, ho, hb⟩
    obtain ⟨c, k, rfl⟩ := own_slice ho
    exact ⟨_, rfl, ⟨c, k, by rw [hn], fun W' hW' j r hr => ent_cells (owns_same ho (fun g e => hW'.block g (row_lt ho g e).1)) hr⟩, hb⟩)
  have HPb : Hid (∀ W, Below w.heap.size w W → Calls Try.prog 17 #[.pointer (some ⟨bb, 0, none⟩), .int .i64 0, .int .i64 size] W fun e w' => ∃ v, e = .returned v ∧ (∃ c k, v = .slice c m k ∧ Hid (∀ W', Below w'.heap.size w' W' → ∀ j r, rb[j]? = some r → ∃ g, c = some ⟨g, 0, none⟩ ∧ W'.cell? ⟨g, j * 3, none⟩ = some (.int .i64 r.lo) ∧ W'.cell? ⟨g, j * 3 + 1, none⟩ = some (.int .i64 r.hi) ∧ W'.cell? ⟨g, j * 3 + 2, none⟩ = some (.int .i64 r.v))) ∧ Below W.heap.size W w') := fun W hW => (HB.out W hW).mono (by
    rintro e w' ⟨v, rfl, ho, hb⟩
    obtain ⟨c, k, rfl⟩ := own_slice ho
    exact ⟨_, rfl, ⟨c, k, by rw [hm], fun W' hW' j r hr => ent_cells (owns_same ho (fun g e => hW'.block g (row_lt ho g e).1)) hr⟩, hb⟩)
  obtain ⟨b, hb⟩ : ∃ b, b = decide (ra = rb) := ⟨_, rfl⟩
  rw [← hb]
  have HRes : Hid (b = decide (ra = rb)) := hb
  rw [hn] at hl
  obtain ⟨W1, hW1⟩ : ∃ W1, W1 = w.drew := ⟨_, rfl⟩
  have B1 : Below w.heap.size w w.drew := below_drew (Below.refl _ _)
  have K1 := HPa.out _ B1
  have B1c : (w.drew).cell? ⟨bb, 1, none⟩ = some (.int .i64 size) := b1
  clear HA HB hn hm hb hW1
  by_cases hnm : n = m
  · subst hnm
    go_enter Try.func32, Try.ntmps32
    go_wp2
    go_region
    go_wp2_with (go_at_call 17; refine K1.mono ?_; rintro e w1 ⟨v1, rfl, ⟨ca, ka, rfl, HCa⟩, hb1⟩; have B2 : Below w.heap.size w w1 := B1.trans hb1; have K2 := HPb.out _ B2; have b1' := cell_later hb1 B1c; clear K1)
    go_wp2_with (go_at_call 17; refine K2.mono ?_; rintro e w2 ⟨v2, rfl, ⟨cb, kb, rfl, HCb⟩, hb2⟩; clear K2)
    have HB2 : Hid (Below w.heap.size w w2) := B2.trans (hb2.mono B2.size)
    have HCa2 : Hid (∀ W', Below w2.heap.size w2 W' → ∀ j r, ra[j]? = some r → ∃ g, ca = some ⟨g, 0, none⟩ ∧ W'.cell? ⟨g, j * 3, none⟩ = some (.int .i64 r.lo) ∧ W'.cell? ⟨g, j * 3 + 1, none⟩ = some (.int .i64 r.hi) ∧ W'.cell? ⟨g, j * 3 + 2, none⟩ = some (.int .i64 r.v)) := fun W' hW' => HCa.out W' (hb2.trans (hW'.mono hb2.size))
    clear HCa hb1 hb2 B2 B1 B1c b1' a0 b0 a1 b1
    go_loopw [7] (fun i wr => ∃ (k : Nat), k ≤ n ∧ i = .int .i64 k ∧ Hid (ra.take k = rb.take k) ∧ Hid (∃ d, wr = w2.drewN d)) (fun i _ => n - (intOf i).toNat)
    case atStart => exact ⟨0, Nat.zero_le _, rfl, rfl, 0, rfl⟩
    case round =>
      obtain ⟨k, hk, rfl, HT, HD⟩ := hrel
      have HD2 : Hid (∀ m, ∃ d, wr.drewN m = w2.drewN d) := fun m => by
        obtain ⟨d, hd⟩ := HD.out
        exact ⟨d + m, by rw [hd]; exact World.drewN_drewN _ _ _⟩
      have HBw : Hid (∀ m, Below w.heap.size w (wr.drewN m)) := fun m => by
        obtain ⟨d, hd⟩ := HD2.out m
        rw [hd]; exact HB2.out.trans ((below_drewW w2 d).mono HB2.out.size)
      by_cases hlt : k < n
      · obtain ⟨r, hr⟩ : ∃ r, ra[k]? = some r := ⟨_, List.getElem?_eq_getElem (by have := HN.out; omega)⟩
        obtain ⟨q, hq⟩ : ∃ q, rb[k]? = some q := ⟨_, List.getElem?_eq_getElem (by have := HM.out; omega)⟩
        have hbw : Below w2.heap.size w2 wr := by obtain ⟨d, hd⟩ := HD.out; rw [hd]; exact below_drewW w2 d
        obtain ⟨ga, rfl, x0, x1, x2⟩ := HCa2.out wr hbw k r hr
        obtain ⟨gb, rfl, y0, y1, y2⟩ := HCb.out wr hbw k q hq
        have hkz : (k : Int) < (n : Int) := by omega
        have hne := neqEnt r.lo r.hi r.v q.lo q.hi q.v
        by_cases hrq : r = q
        · have hz : (r.lo == q.lo && r.hi == q.hi && r.v == q.v) = true := by rw [hrq]; simp
          rw [hz] at hne
          have HT2 : Hid (ra.take (k + 1) = rb.take (k + 1)) := by show _ = _; rw [List.take_add_one, List.take_add_one, hr, hq, HT.out, hrq]
          clear hr hq hbw hz hrq
          go_wp2
          go_quiet (fail)
          go_wp2
          go_roundw
          case rel => exact ⟨k + 1, by omega, by go_num, HT2, HD2.out _⟩
          case measure => simp [intOf]; omega
        · have hz : (r.lo == q.lo && r.hi == q.hi && r.v == q.v) = false := by
            rw [Bool.eq_false_iff]
            intro h
            simp only [Bool.and_eq_true, beq_iff_eq] at h
            apply hrq
            obtain ⟨⟨h1, h2⟩, h3⟩ := h
            cases r; cases q; simp_all
          rw [hz] at hne
          have HF : Hid (b = false) := by
            show _ = _
            rw [HRes.out, decide_eq_false_iff_not]
            intro e
            rw [e, hq] at hr
            exact hrq (Option.some.inj hr).symm
          clear hr hq hbw hz hrq
          go_wp2
          go_quiet (fail)
          go_wp2
          go_ret
          exact ⟨by rw [HF.out]; rfl, HBw.out _⟩
      · have e : k = n := by omega
        subst e
        have HF : Hid (b = true) := by
          show _ = _
          rw [HRes.out, decide_eq_true_iff]
          have h1 := HT.out
          rw [List.take_of_length_le (by have := HN.out; omega), List.take_of_length_le (by have := HM.out; omega)] at h1
          exact h1
        have hbb : Below w.heap.size w wr := HBw.out 0
        have hkz : ¬ (k : Int) < (k : Int) := by omega
        go_wp2
        go_ret
        exact ⟨by rw [HF.out]; rfl, hbb⟩
  · have hnb : (n == m) = false := by simpa using hnm
    have HF : Hid (b = false) := by
      show _ = _
      rw [HRes.out, decide_eq_false_iff_not]
      intro e
      apply hnm
      rw [← HN.out, ← HM.out, e]
    have hni : ((n : Int) == (m : Int)) = false := by
      rw [Bool.eq_false_iff]
      intro h
      apply hnm
      have := of_decide_eq_true h
      omega
    go_enter Try.func32, Try.ntmps32
    go_wp2
    go_region
    go_wp2_with (go_at_call 17; refine K1.mono ?_; rintro e w1 ⟨v1, rfl, ⟨ca, ka, rfl, HCa⟩, hb1⟩; have B2 : Below w.heap.size w w1 := B1.trans hb1; have K2 := HPb.out _ B2; have b1' := cell_later hb1 B1c; clear K1)
    go_wp2_with (go_at_call 17; refine K2.mono ?_; rintro e w2 ⟨v2, rfl, ⟨cb, kb, rfl, HCb⟩, hb2⟩; clear K2)
    go_ret
    exact ⟨by rw [HF.out]; rfl, B2.trans (hb2.mono B2.size)⟩
end Go.Proofs.Ytijafckdbhklmaa.I

namespace Go.Proofs.Ytijafckdbhklmaa.I
open Go.RowKit Go.Sort Go.Lib Go.Shelf Go.Proofs.Ytijafckdbhklmaa Classical
attribute [local go_sem] Oper.semAt_some
set_option linter.unusedVariables false
set_option linter.unusedSimpArgs false
set_option maxRecDepth 100000

/-- the program's Same, where one of the two was not made -/
theorem same_nil (w : World) : Calls Try.prog 25 #[.pointer none, .pointer none] w fun e w' => e = .returned (.bool true) ∧ w' = w := by
  go_enter Try.func25, Try.ntmps25
  go_wp2_with (go_at_call 33; refine (usable_nil _).mono ?_; rintro e w9 ⟨rfl, hw9⟩; rw [hw9]; clear hw9)
  go_ret
  exact ⟨rfl, rfl⟩
theorem same_nilL (w : World) (b : Nat) (c0 : w.cell? ⟨b, 0, none⟩ = some (.bool true)) : Calls Try.prog 25 #[.pointer none, .pointer (some ⟨b, 0, none⟩)] w fun e w' => e = .returned (.bool false) ∧ w' = w := by
  go_enter Try.func25, Try.ntmps25
  go_wp2_with (first | (go_at_call_of 33 (Value.pointer none); refine (usable_nil _).mono ?_; rintro e w9 ⟨rfl, hw9⟩; rw [hw9]; clear hw9) | (go_at_call_of 33 (Value.pointer (some ⟨b, 0, none⟩)); refine (usable_at b true _ c0).mono ?_; rintro e w9 ⟨rfl, hw9⟩; rw [hw9]; clear hw9))
  go_ret
  exact ⟨rfl, rfl⟩
theorem same_nilR (w : World) (b : Nat) (c0 : w.cell? ⟨b, 0, none⟩ = some (.bool true)) : Calls Try.prog 25 #[.pointer (some ⟨b, 0, none⟩), .pointer none] w fun e w' => e = .returned (.bool false) ∧ w' = w := by
  go_enter Try.func25, Try.ntmps25
  go_wp2_with (first | (go_at_call_of 33 (Value.pointer none); refine (usable_nil _).mono ?_; rintro e w9 ⟨rfl, hw9⟩; rw [hw9]; clear hw9) | (go_at_call_of 33 (Value.pointer (some ⟨b, 0, none⟩)); refine (usable_at b true _ c0).mono ?_; rintro e w9 ⟨rfl, hw9⟩; rw [hw9]; clear hw9))
  go_ret
  exact ⟨rfl, rfl⟩
theorem same_size {w : World} {ba bb : Nat} {s t : Int} (a0 : w.cell? ⟨ba, 0, none⟩ = some (.bool true)) (b0 : w.cell? ⟨bb, 0, none⟩ = some (.bool true)) (a1 : w.cell? ⟨ba, 1, none⟩ = some (.int .i64 s)) (b1 : w.cell? ⟨bb, 1, none⟩ = some (.int .i64 t)) (h : s ≠ t) :
    Calls Try.prog 25 #[.pointer (some ⟨ba, 0, none⟩), .pointer (some ⟨bb, 0, none⟩)] w fun e w' => e = .returned (.bool false) ∧ Below w.heap.size w w' := by
  have hb : (s == t) = false := by simpa using h
  go_enter Try.func25, Try.ntmps25
  go_wp2_with (first | (go_at_call_of 33 (Value.pointer (some ⟨ba, 0, none⟩)); refine (usable_at ba true _ a0).mono ?_; rintro e w9 ⟨rfl, hw9⟩; rw [hw9]; clear hw9) | (go_at_call_of 33 (Value.pointer (some ⟨bb, 0, none⟩)); refine (usable_at bb true _ b0).mono ?_; rintro e w9 ⟨rfl, hw9⟩; rw [hw9]; clear hw9))
  go_region
  go_wp2
  go_ret
  exact ⟨rfl, below_drew (Below.refl _ _)⟩
theorem copy_nil (w : World) : Calls Try.prog 30 #[.pointer none] w fun e w' => e = .returned (.pointer none) ∧ w' = w := by
  go_enter Try.func30, Try.ntmps30
  go_wp2_with (go_at_call 33; refine (usable_nil _).mono ?_; rintro e w9 ⟨rfl, hw9⟩; rw [hw9]; clear hw9)
  go_ret
  exact ⟨rfl, rfl⟩
set_option maxHeartbeats 4000000 in
theorem dCopy_dead {w : World} {bd : Nat} (hb : w.heap[bd]? = some (.cells #[.bool false, .int .i64 0, .int .i64 0, .slice none 0 0] TDM (0, 0))) :
    Calls Try.prog 31 #[.pointer (some ⟨bd, 0, none⟩)] w fun e w' => ∃ bc, e = .returned (.pointer (some ⟨bc, 0, none⟩)) ∧ w'.heap[bc]? = some (.cells #[.bool false, .int .i64 0, .int .i64 0, .slice none 0 0] TDM (0, 0)) ∧ w.heap.size ≤ bc ∧ Below w.heap.size w w' := by
  obtain ⟨i0, hi0, hz0, hz1, hz2⟩ := info_parts infoEnt
  have c0 : w.cell? ⟨bd, 0, none⟩ = some (.bool false) := by unfold World.cell?; rw [hb]; rfl
  have c1 : w.cell? ⟨bd, 1, none⟩ = some (.int .i64 0) := by unfold World.cell?; rw [hb]; rfl
  have c2 : w.cell? ⟨bd, 2, none⟩ = some (.int .i64 0) := by unfold World.cell?; rw [hb]; rfl
  have c3 : w.cell? ⟨bd, 3, none⟩ = some (.slice none 0 0) := by unfold World.cell?; rw [hb]; rfl
  clear hb
  go_enter Try.func31, Try.ntmps31
  go_wp2
  go_region_held3 (fun w' => w'.cell? ⟨bd, 0, none⟩ = some (.bool false) ∧ w'.cell? ⟨bd, 1, none⟩ = some (.int .i64 0) ∧ w'.cell? ⟨bd, 2, none⟩ = some (.int .i64 0)) (first | exact ⟨c0, c1, c2⟩ | go_keep) (fail)
  have c3' : ((w.alloc (.cells #[.bool false, .int .i64 0, .int .i64 0, .slice none 0 0] 40)).drew).cell? ⟨bd, 3, none⟩ = some (.slice none 0 0) := cell_later (below_drew ((Below.refl _ w).alloc (Nat.le_refl _) _)) c3
  have n3 : ((w.alloc (.cells #[.bool false, .int .i64 0, .int .i64 0, .slice none 0 0] 40)).drew).heap[w.heap.size]? = some (.cells #[.bool false, .int .i64 0, .int .i64 0, .slice none 0 0] 40 (0, 0)) := heap_alloc_new w _
  obtain ⟨W1, hW1⟩ : ∃ W1, W1 = (w.alloc (.cells #[.bool false, .int .i64 0, .int .i64 0, .slice none 0 0] 40)).drew := ⟨_, rfl⟩
  have hb1 : Below w.heap.size w W1 := by rw [hW1]; exact below_drew ((Below.refl _ w).alloc (Nat.le_refl _) _)
  have hs1 : W1.heap.size = w.heap.size + 1 := by rw [hW1]; exact World.size_alloc w _
  rw [← hW1] at c3' n3 ⊢
  have n3c : W1.cell? ⟨w.heap.size, 3, none⟩ = some (.slice none 0 0) := by unfold World.cell?; rw [n3]; rfl
  have HN3 : Hid (W1.heap[w.heap.size]? = some (.cells #[.bool false, .int .i64 0, .int .i64 0, .slice none 0 0] 40 (0, 0))) := n3
  have HB1 : Hid (Below w.heap.size w W1) := hb1
  have HS1 : Hid (W1.heap.size = w.heap.size + 1) := hs1
  clear c0 c1 c2 c3 hW1 n3 hb1 hs1
  go_wp2
  have q4 : W1.frozen? ⟨w.heap.size, 3, none⟩ = false := by unfold World.frozen?; rw [HN3.out]; rfl
  have hap : ∀ (ty : TypeId) (w : World), (Builtin.append_ #[38, 38] ty #[.slice none 0 0, .slice none 0 0]).run Try.prog w = .ok (.slice none 0 0) w := fun ty w => run_append_owned_none w w.heap.size TEnts ty TEnt i0 3 Try.underlying38 hi0 _ 0 [] (World.ownsRow_nil _ _ _ _)
  go_region_law (fail)
  all_goals
    go_wp2
    go_ret
    refine ⟨_, rfl, (blk_set HN3.out 3 _).trans (by rfl), Nat.le_refl _, (below_drew HB1.out).setCell (p := ⟨w.heap.size, 3, none⟩) (Nat.le_refl _) _⟩
end Go.Proofs.Ytijafckdbhklmaa.I

namespace Go.Proofs.Ytijafckdbhklmaa.I
open Go.RowKit Go.Sort Go.Lib Go.Shelf Go.Proofs.Ytijafckdbhklmaa Classical
set_option linter.unusedVariables false
set_option linter.unusedSimpArgs false
set_option maxRecDepth 100000

def sameP : Stt → Stt → Prop
  | none, none => True
  | some (z, f, S), some (z', f', S') => z = z' ∧ runsL z f S = runsL z' f' S'
  | none, some _ => False
  | some _, none => False
section
variable {w w' : World} {P Q : Nat → Prop} {n0 : Nat} {m d ma mb da db : Value} {s t : Stt}
theorem MO.down {w : World} {B B' bm : Nat} {v : Value} {size : Int} {rs : List (Rn Int)} (h : MO w B bm v size rs) (hb : B' ≤ B) : MO w B' bm v size rs := ⟨h.blk, owns_mono h.row hb, Nat.le_trans hb h.base, h.tiles, h.alt, h.le⟩
theorem DM.down {w : World} {B B' bd : Nat} {sv : Value} {size first : Int} {S : List Put} (h : DM w B bd sv size first S) (hb : B' ≤ B) : DM w B' bd sv size first S := ⟨h.blk, owns_mono h.row hb, Nat.le_trans hb h.base, h.may⟩
theorem pm_copy (h : PM w P n0 m s) (hn : n0 ≤ w.heap.size) :
    Calls Try.prog 30 #[m] w fun e w' => ∃ m' P', e = .returned m' ∧ PM w' P' n0 m' s ∧ (∀ k, P' k → w.heap.size ≤ k ∧ k < w'.heap.size) ∧ Below w.heap.size w w' := by
  match s, h with
  | none, h =>
    rw [show m = .pointer none from h]
    refine (copy_nil w).mono ?_
    rintro e w' ⟨rfl, rfl⟩
    exact ⟨_, fun _ => False, rfl, rfl, fun k hk => hk.elim, Below.refl _ _⟩
  | some (size, first, S), ⟨h0, bm, vm, e, hm, p1, p2⟩ =>
    subst e
    refine (copy_any hm).mono ?_
    rintro e w' ⟨bc, vc, rfl, hc, hb⟩
    refine ⟨_, fun k => k = bc ∨ vc.ownBlock = some k, rfl, ⟨h0, bc, vc, rfl, hc.down hn, .inl rfl, fun g e => .inr e⟩, ?_, hb⟩
    rintro k (rfl | e)
    · exact ⟨hc.base, hc.ltm⟩
    · have := row_lt hc.row k e
      exact ⟨this.2.1, this.1⟩
theorem pd_copy (h : PD w P n0 d s) (hn : n0 ≤ w.heap.size) (hl : lenS s ≤ 1099511627776) :
    Calls Try.prog 31 #[d] w fun e w' => ∃ d' P', e = .returned d' ∧ PD w' P' n0 d' s ∧ (∀ k, P' k → w.heap.size ≤ k ∧ k < w'.heap.size) ∧ Below w.heap.size w w' := by
  match s, h, hl with
  | none, ⟨bd, e, hb, p1, h1⟩, _ =>
    subst e
    refine (dCopy_dead hb).mono ?_
    rintro e w' ⟨bc, rfl, hc, hn', hb'⟩
    exact ⟨_, fun k => k = bc, rfl, ⟨bc, rfl, hc, rfl, by omega⟩, fun k hk => by rw [hk]; exact ⟨hn', (Array.getElem?_eq_some_iff.1 hc).1⟩, hb'⟩
  | some (size, first, S), ⟨h0, bd, sv, e, hd, p1, p2⟩, hl =>
    subst e
    refine (dCopy_any hd hl).mono ?_
    rintro e w' ⟨bc, sc, rfl, hc, hb⟩
    refine ⟨_, fun k => k = bc ∨ sc.ownBlock = some k, rfl, ⟨h0, bc, sc, rfl, hc.down hn, .inl rfl, fun g e => .inr e⟩, ?_, hb⟩
    rintro k (rfl | e)
    · exact ⟨hc.base, hc.ltm⟩
    · have := row_lt hc.row k e
      exact ⟨this.2.1, this.1⟩
theorem pm_same (ha : PM w P n0 ma s) (hb : PM w Q n0 mb t) :
    Calls Try.prog 25 #[ma, mb] w fun e w' => e = .returned (.bool (decide (sameP s t))) ∧ Below w.heap.size w w' := by
  match s, t, ha, hb with
  | none, none, ha, hb =>
    rw [show ma = .pointer none from ha, show mb = .pointer none from hb]
    refine (same_nil w).mono ?_
    rintro e w' ⟨rfl, rfl⟩
    exact ⟨by rw [decide_eq_true (show sameP none none from trivial)], Below.refl _ _⟩
  | none, some (z, f, S), ha, ⟨h0, bm, vm, e, hm, _⟩ =>
    subst e
    rw [show ma = .pointer none from ha]
    refine (same_nilL w bm (hm.c 0)).mono ?_
    rintro e w' ⟨rfl, rfl⟩
    exact ⟨by rw [decide_eq_false (show ¬ sameP none (some (z, f, S)) from fun e => e)], Below.refl _ _⟩
  | some (z, f, S), none, ⟨h0, bm, vm, e, hm, _⟩, hb =>
    subst e
    rw [show mb = .pointer none from hb]
    refine (same_nilR w bm (hm.c 0)).mono ?_
    rintro e w' ⟨rfl, rfl⟩
    exact ⟨by rw [decide_eq_false (show ¬ sameP (some (z, f, S)) none from fun e => e)], Below.refl _ _⟩
  | some (z, f, S), some (z', f', S'), ⟨h0, bm, vm, e, hm, _⟩, ⟨h0', bm', vm', e', hm', _⟩ =>
    subst e
    subst e'
    by_cases hz : z = z'
    · subst hz
      have e1 : decide (sameP (some (z, f, S)) (some (z, f', S'))) = decide (runsL z f S = runsL z f' S') := by
        rw [decide_eq_decide]
        exact ⟨fun h => h.2, fun h => ⟨rfl, h⟩⟩
      rw [e1]
      exact same_any hm hm'
    · have e1 : decide (sameP (some (z, f, S)) (some (z', f', S'))) = false := decide_eq_false (fun h => hz h.1)
      rw [e1]
      exact same_size (hm.c 0) (hm'.c 0) (hm.c 1) (hm'.c 1) hz
theorem pd_same (ha : PD w P n0 da s) (hb : PD w Q n0 db t) (hl : lenS s ≤ 1048576) (hl' : lenS t ≤ 1048576) (hm : ∀ z f S, s = some (z, f, S) → (runsL z f S).length ≤ 1099511627776) :
    Calls Try.prog 32 #[da, db] w fun e w' => e = .returned (.bool (decide (sameP s t))) ∧ Below w.heap.size w w' := by
  obtain ⟨ba, rfl, a0, a1, _⟩ := ha.cells
  obtain ⟨bb, rfl, b0, b1, _⟩ := hb.cells
  by_cases hd : madeS s = false ∨ madeS t = false
  · have e1 : decide (sameP s t) = (madeS s == madeS t) := by
      cases s with
      | none => cases t with
        | none => exact decide_eq_true (show sameP none none from trivial)
        | some x => exact decide_eq_false (show ¬ sameP none (some x) from fun e => e)
      | some y => cases t with
        | none => exact decide_eq_false (show ¬ sameP (some y) none from fun e => e)
        | some x => rcases hd with h | h <;> simp [madeS] at h
    rw [e1]
    exact dSame_dead _ _ a0 b0 hd
  · match s, t, ha, hb, hl, hl', hm with
    | none, _, _, _, _, _, _ => exact absurd (.inl rfl) hd
    | some _, none, _, _, _, _, _ => exact absurd (.inr rfl) hd
    | some (z, f, S), some (z', f', S'), ha, hb, hl, hl', hm =>
      obtain ⟨h0, bd, sv, e, hD, _⟩ := ha
      obtain ⟨h0', bd', sv', e', hD', _⟩ := hb
      simp only [Value.pointer.injEq, Option.some.injEq, Addr.mk.injEq, and_true] at e e'
      subst e
      subst e'
      by_cases hz : z = z'
      · subst hz
        have e1 : decide (sameP (some (z, f, S)) (some (z, f', S'))) = decide (runsL z f S = runsL z f' S') := by
          rw [decide_eq_decide]
          exact ⟨fun h => h.2, fun h => ⟨rfl, h⟩⟩
        rw [e1]
        refine dSame_any (hD.c 0) (hD'.c 0) (hD.c 1) (hD'.c 1) (hm z f S rfl) (fun W hW => ?_) (fun W hW => ?_)
        · have := dRuns_any (hD.later hW) 0 z h0 hl
          rw [cutA_all (runsL_spec z f h0 S).1] at this
          exact this
        · have := dRuns_any (hD'.later hW) 0 z h0 hl'
          rw [cutA_all (runsL_spec z f' h0 S').1] at this
          exact this
      · have e1 : decide (sameP (some (z, f, S)) (some (z', f', S'))) = false := decide_eq_false (fun h => hz h.1)
        rw [e1]
        exact dSame_size (hD.c 0) (hD'.c 0) (hD.c 1) (hD'.c 1) hz
theorem PM.runs_len (h : PM w P n0 m s) : ∀ z f S, s = some (z, f, S) → (runsL z f S).length ≤ 1099511627776 := by
  rintro z f S rfl
  obtain ⟨h0, bm, vm, e, hm, _⟩ := h
  exact hm.len
theorem PM.runsS_len (h : PM w P n0 m s) (lo hi : Int) : (runsS s lo hi).length ≤ 1099511627776 := by
  match s, h with
  | none, _ => exact Nat.zero_le _
  | some (z, f, S), h => exact Nat.le_trans (cutA_len _ _ _ _) (h.runs_len z f S rfl)
end
/-- one of four footprints renewed -/
def up (F : Nat → Nat → Prop) (i : Nat) (G : Nat → Prop) : Nat → Nat → Prop := fun j k => if j = i then G k else F j k
theorem up_eq (F : Nat → Nat → Prop) (i : Nat) (G : Nat → Prop) : up F i G i = G := by funext k; simp [up]
theorem up_ne (F : Nat → Nat → Prop) {i j : Nat} (G : Nat → Prop) (h : j ≠ i) : up F i G j = F j := by funext k; simp [up, h]
/-- the pair: two maps of the program and two of the document, c of the four made; Z: what else stays -/
structure Pr (w0 w : World) (bp : Nat) (Z : Nat → Option Obj) (c : Nat) (F : Nat → Nat → Prop) (m0 m1 d0 d1 : Value) (s t s' t' : Stt) : Prop where
  blk : w.heap[bp]? = some (.cells #[m0, m1, d0, d1] 31 (0, 0))
  zz : ∀ k o, Z k = some o → w.heap[k]? = some o
  M0 : 0 < c → PM w (F 0) w0.heap.size m0 s
  D0 : 1 < c → PD w (F 1) w0.heap.size d0 s'
  M1 : 2 < c → PM w (F 2) w0.heap.size m1 t
  D1 : 3 < c → PD w (F 3) w0.heap.size d1 t'
  lt : ∀ i k, F i k → w0.heap.size ≤ k ∧ k < w.heap.size ∧ k ≠ bp ∧ Z k = none
  sep : ∀ i j k, F i k → F j k → i = j
  base : w0.heap.size ≤ bp ∧ Z bp = none
  bel : Below w0.heap.size w0 w
section
variable {w0 w w' : World} {bp : Nat} {Z Z' : Nat → Option Obj} {c c' : Nat} {F : Nat → Nat → Prop} {m0 m1 d0 d1 v : Value} {s t s' t' r : Stt}
theorem Pr.ltp (h : Pr w0 w bp Z c F m0 m1 d0 d1 s t s' t') : bp < w.heap.size := (Array.getElem?_eq_some_iff.1 h.blk).1
theorem Pr.ltz (h : Pr w0 w bp Z c F m0 m1 d0 d1 s t s' t') {k : Nat} {o : Obj} (hz : Z k = some o) : k < w.heap.size := (Array.getElem?_eq_some_iff.1 (h.zz k o hz)).1
theorem Pr.p (h : Pr w0 w bp Z c F m0 m1 d0 d1 s t s' t') (j : Nat) : w.cell? ⟨bp, j, none⟩ = #[m0, m1, d0, d1][j]? := by unfold World.cell?; rw [h.blk]; simp
theorem Pr.fp (h : Pr w0 w bp Z c F m0 m1 d0 d1 s t s' t') (j : Nat) : w.frozen? ⟨bp, j, none⟩ = false := by unfold World.frozen?; rw [h.blk]; simp
theorem Pr.z (h : Pr w0 w bp Z c F m0 m1 d0 d1 s t s' t') {k : Nat} {cs : Array Value} {T : TypeId} {fr : Nat × Nat} (hz : Z k = some (.cells cs T fr)) (j : Nat) : w.cell? ⟨k, j, none⟩ = cs[j]? := by unfold World.cell?; rw [h.zz _ _ hz]; simp
theorem Pr.n0 (h : Pr w0 w bp Z c F m0 m1 d0 d1 s t s' t') : w0.heap.size ≤ w.heap.size := h.bel.size
theorem Pr.later (h : Pr w0 w bp Z c F m0 m1 d0 d1 s t s' t') (hb : Below w.heap.size w w') : Pr w0 w' bp Z c F m0 m1 d0 d1 s t s' t' :=
  ⟨(hb.block _ h.ltp).trans h.blk, fun k o hz => (hb.block _ (h.ltz hz)).trans (h.zz k o hz), fun q => (h.M0 q).later hb, fun q => (h.D0 q).later hb, fun q => (h.M1 q).later hb, fun q => (h.D1 q).later hb, fun i k hk => by have h1 := h.lt i k hk; have := hb.size; exact ⟨h1.1, by omega, h1.2.2⟩, h.sep, h.base, h.bel.trans (hb.mono h.n0)⟩
/-- one more block that stays -/
def zadd (Z : Nat → Option Obj) (b : Nat) (o : Obj) : Nat → Option Obj := fun k => if k = b then some o else Z k
theorem zadd_eq (Z : Nat → Option Obj) (b : Nat) (o : Obj) : zadd Z b o b = some o := by simp [zadd]
theorem zadd_ne (Z : Nat → Option Obj) {b k : Nat} (o : Obj) (h : k ≠ b) : zadd Z b o k = Z k := by simp [zadd, h]
theorem Pr.add (h : Pr w0 w bp Z c F m0 m1 d0 d1 s t s' t') {b : Nat} {o : Obj} (hb : w.heap[b]? = some o) (hF : ∀ i, ¬ F i b) (hp : b ≠ bp) : Pr w0 w bp (zadd Z b o) c F m0 m1 d0 d1 s t s' t' := by
  refine ⟨h.blk, fun k o' hz => ?_, h.M0, h.D0, h.M1, h.D1, fun i k hk => ?_, h.sep, ⟨h.base.1, by rw [zadd_ne Z o (fun e => hp e.symm)]; exact h.base.2⟩, h.bel⟩
  · by_cases e : k = b
    · subst e; rw [zadd_eq] at hz; exact hb.trans hz
    · rw [zadd_ne Z o e] at hz; exact h.zz k o' hz
  · have h1 := h.lt i k hk
    refine ⟨h1.1, h1.2.1, h1.2.2.1, ?_⟩
    rw [zadd_ne Z o (fun e : k = b => hF i (by rw [← e]; exact hk))]
    exact h1.2.2.2
theorem Pr.drop {b : Nat} {o : Obj} (h : Pr w0 w bp (zadd Z b o) c F m0 m1 d0 d1 s t s' t') (hb : Z b = none) : Pr w0 w bp Z c F m0 m1 d0 d1 s t s' t' := by
  have key : ∀ k o', Z k = some o' → zadd Z b o k = some o' := fun k o' hz => by
    rw [zadd_ne Z o (fun e => by rw [e, hb] at hz; cases hz)]; exact hz
  refine ⟨h.blk, fun k o' hz => h.zz k o' (key k o' hz), h.M0, h.D0, h.M1, h.D1, fun i k hk => ?_, h.sep, ⟨h.base.1, ?_⟩, h.bel⟩
  · have h1 := h.lt i k hk
    refine ⟨h1.1, h1.2.1, h1.2.2.1, ?_⟩
    cases hz : Z k with
    | none => rfl
    | some o' => rw [key k o' hz] at h1; simp at h1
  · cases hz : Z bp with
    | none => rfl
    | some o' => have h1 := h.base.2; rw [key bp o' hz] at h1; cases h1
theorem up_lt {n0 i : Nat} {G : Nat → Prop} (hlt : ∀ i k, F i k → n0 ≤ k ∧ k < w.heap.size ∧ k ≠ bp ∧ Z k = none) (hG : ∀ k, G k → F i k ∨ (w.heap.size ≤ k ∧ k < w'.heap.size)) (h1 : n0 ≤ w.heap.size) (h2 : bp < w.heap.size) (h3 : ∀ k, w.heap.size ≤ k → Z k = none) (h4 : w.heap.size ≤ w'.heap.size) : ∀ j k, up F i G j k → n0 ≤ k ∧ k < w'.heap.size ∧ k ≠ bp ∧ Z k = none := by
  intro j k hk
  by_cases e : j = i
  · subst e
    rw [up_eq] at hk
    rcases hG k hk with a | a
    · have := hlt j k a; exact ⟨this.1, by omega, this.2.2⟩
    · exact ⟨by omega, a.2, by omega, h3 k a.1⟩
  · rw [up_ne F G e] at hk
    have := hlt j k hk
    exact ⟨this.1, by omega, this.2.2⟩
theorem up_sep {n0 i : Nat} {G : Nat → Prop} (hsep : ∀ i j k, F i k → F j k → i = j) (hG : ∀ k, G k → ∀ j, j ≠ i → ¬ F j k) : ∀ i' j k, up F i G i' k → up F i G j k → i' = j := by
  intro i' j k h1 h2
  by_cases e : i' = i
  · by_cases e2 : j = i
    · omega
    · subst e
      rw [up_eq] at h1
      rw [up_ne F G e2] at h2
      exact absurd h2 (hG k h1 j e2)
  · by_cases e2 : j = i
    · subst e2
      rw [up_eq] at h2
      rw [up_ne F G e] at h1
      exact absurd h1 (hG k h2 i' e)
    · rw [up_ne F G e] at h1
      rw [up_ne F G e2] at h2
      exact hsep i' j k h1 h2
theorem Pr.ch0 (h : Pr w0 w bp Z c F m0 m1 d0 d1 s t s' t') (hc : ChM w w' (F 0) w0.heap.size m0 r) : ∃ F', Pr w0 w' bp Z c F' m0 m1 d0 d1 r t s' t' := by
  obtain ⟨P', hP, hk, hf⟩ := hc
  have hnp : ¬ F 0 bp := fun hF => (h.lt 0 bp hF).2.2.1 rfl
  have hz0 : ∀ k, w.heap.size ≤ k → Z k = none := fun k hk => by
    cases hz : Z k with
    | none => rfl
    | some o => have := h.ltz hz; omega
  have kp : ∀ j, j ≠ 0 → ∀ k, k < w.heap.size → F j k → w'.heap[k]? = w.heap[k]? := fun j hj k hlt hF => hk.block k hlt (fun h0 => hj (h.sep j 0 k hF h0))
  refine ⟨up F 0 P', ⟨(hk.block bp h.ltp hnp).trans h.blk, fun k o hz => (hk.block k (h.ltz hz) (fun hF => by have := (h.lt 0 k hF).2.2.2; rw [hz] at this; cases this)).trans (h.zz k o hz), ?_, ?_, ?_, ?_, up_lt h.lt hf h.n0 h.ltp hz0 hk.size, up_sep (n0 := 0) h.sep (fun k hk' j hj hF => ?_), h.base, KX.below h.bel hk h.n0 (fun k hF => (h.lt 0 k hF).1)⟩⟩
  · intro _; rw [up_eq]; exact hP
  · intro e; rw [up_ne F P' (by decide)]; exact (h.D0 e).keep (kp 1 (by decide))
  · intro e; rw [up_ne F P' (by decide)]; exact (h.M1 e).keep (kp 2 (by decide))
  · intro e; rw [up_ne F P' (by decide)]; exact (h.D1 e).keep (kp 3 (by decide))
  · rcases hf k hk' with a | a
    · exact hj (h.sep j 0 k hF a)
    · have := (h.lt j k hF).2.1; omega
theorem Pr.ch1 (h : Pr w0 w bp Z c F m0 m1 d0 d1 s t s' t') (hc : ChD w w' (F 1) w0.heap.size d0 r) : ∃ F', Pr w0 w' bp Z c F' m0 m1 d0 d1 s t r t' := by
  obtain ⟨P', hP, hk, hf⟩ := hc
  have hnp : ¬ F 1 bp := fun hF => (h.lt 1 bp hF).2.2.1 rfl
  have hz0 : ∀ k, w.heap.size ≤ k → Z k = none := fun k hk => by
    cases hz : Z k with
    | none => rfl
    | some o => have := h.ltz hz; omega
  have kp : ∀ j, j ≠ 1 → ∀ k, k < w.heap.size → F j k → w'.heap[k]? = w.heap[k]? := fun j hj k hlt hF => hk.block k hlt (fun h0 => hj (h.sep j 1 k hF h0))
  refine ⟨up F 1 P', ⟨(hk.block bp h.ltp hnp).trans h.blk, fun k o hz => (hk.block k (h.ltz hz) (fun hF => by have := (h.lt 1 k hF).2.2.2; rw [hz] at this; cases this)).trans (h.zz k o hz), ?_, ?_, ?_, ?_, up_lt h.lt hf h.n0 h.ltp hz0 hk.size, up_sep (n0 := 0) h.sep (fun k hk' j hj hF => ?_), h.base, KX.below h.bel hk h.n0 (fun k hF => (h.lt 1 k hF).1)⟩⟩
  · intro e; rw [up_ne F P' (by decide)]; exact (h.M0 e).keep (kp 0 (by decide))
  · intro _; rw [up_eq]; exact hP
  · intro e; rw [up_ne F P' (by decide)]; exact (h.M1 e).keep (kp 2 (by decide))
  · intro e; rw [up_ne F P' (by decide)]; exact (h.D1 e).keep (kp 3 (by decide))
  · rcases hf k hk' with a | a
    · exact hj (h.sep j 1 k hF a)
    · have := (h.lt j k hF).2.1; omega
theorem Pr.ch2 (h : Pr w0 w bp Z c F m0 m1 d0 d1 s t s' t') (hc : ChM w w' (F 2) w0.heap.size m1 r) : ∃ F', Pr w0 w' bp Z c F' m0 m1 d0 d1 s r s' t' := by
  obtain ⟨P', hP, hk, hf⟩ := hc
  have hnp : ¬ F 2 bp := fun hF => (h.lt 2 bp hF).2.2.1 rfl
  have hz0 : ∀ k, w.heap.size ≤ k → Z k = none := fun k hk => by
    cases hz : Z k with
    | none => rfl
    | some o => have := h.ltz hz; omega
  have kp : ∀ j, j ≠ 2 → ∀ k, k < w.heap.size → F j k → w'.heap[k]? = w.heap[k]? := fun j hj k hlt hF => hk.block k hlt (fun h0 => hj (h.sep j 2 k hF h0))
  refine ⟨up F 2 P', ⟨(hk.block bp h.ltp hnp).trans h.blk, fun k o hz => (hk.block k (h.ltz hz) (fun hF => by have := (h.lt 2 k hF).2.2.2; rw [hz] at this; cases this)).trans (h.zz k o hz), ?_, ?_, ?_, ?_, up_lt h.lt hf h.n0 h.ltp hz0 hk.size, up_sep (n0 := 0) h.sep (fun k hk' j hj hF => ?_), h.base, KX.below h.bel hk h.n0 (fun k hF => (h.lt 2 k hF).1)⟩⟩
  · intro e; rw [up_ne F P' (by decide)]; exact (h.M0 e).keep (kp 0 (by decide))
  · intro e; rw [up_ne F P' (by decide)]; exact (h.D0 e).keep (kp 1 (by decide))
  · intro _; rw [up_eq]; exact hP
  · intro e; rw [up_ne F P' (by decide)]; exact (h.D1 e).keep (kp 3 (by decide))
  · rcases hf k hk' with a | a
    · exact hj (h.sep j 2 k hF a)
    · have := (h.lt j k hF).2.1; omega
theorem Pr.ch3 (h : Pr w0 w bp Z c F m0 m1 d0 d1 s t s' t') (hc : ChD w w' (F 3) w0.heap.size d1 r) : ∃ F', Pr w0 w' bp Z c F' m0 m1 d0 d1 s t s' r := by
  obtain ⟨P', hP, hk, hf⟩ := hc
  have hnp : ¬ F 3 bp := fun hF => (h.lt 3 bp hF).2.2.1 rfl
  have hz0 : ∀ k, w.heap.size ≤ k → Z k = none := fun k hk => by
    cases hz : Z k with
    | none => rfl
    | some o => have := h.ltz hz; omega
  have kp : ∀ j, j ≠ 3 → ∀ k, k < w.heap.size → F j k → w'.heap[k]? = w.heap[k]? := fun j hj k hlt hF => hk.block k hlt (fun h0 => hj (h.sep j 3 k hF h0))
  refine ⟨up F 3 P', ⟨(hk.block bp h.ltp hnp).trans h.blk, fun k o hz => (hk.block k (h.ltz hz) (fun hF => by have := (h.lt 3 k hF).2.2.2; rw [hz] at this; cases this)).trans (h.zz k o hz), ?_, ?_, ?_, ?_, up_lt h.lt hf h.n0 h.ltp hz0 hk.size, up_sep (n0 := 0) h.sep (fun k hk' j hj hF => ?_), h.base, KX.below h.bel hk h.n0 (fun k hF => (h.lt 3 k hF).1)⟩⟩
  · intro e; rw [up_ne F P' (by decide)]; exact (h.M0 e).keep (kp 0 (by decide))
  · intro e; rw [up_ne F P' (by decide)]; exact (h.D0 e).keep (kp 1 (by decide))
  · intro e; rw [up_ne F P' (by decide)]; exact (h.M1 e).keep (kp 2 (by decide))
  · intro _; rw [up_eq]; exact hP
  · rcases hf k hk' with a | a
    · exact hj (h.sep j 3 k hF a)
    · have := (h.lt j k hF).2.1; omega
theorem Pr.swap0 (h : Pr w0 w bp Z c F m0 m1 d0 d1 s t s' t') {P' : Nat → Prop} (hP : PM w P' w0.heap.size v r) (hf : ∀ k, P' k → (∀ j, ¬ F j k) ∧ w0.heap.size ≤ k ∧ k < w.heap.size ∧ k ≠ bp ∧ Z k = none) (hc : ∀ i, i ≠ 0 → i < c' → i < c) : ∃ F', Pr w0 (w.setCell ⟨bp, 0, none⟩ v) bp Z c' F' v m1 d0 d1 r t s' t' ∧ ∀ j k, F' j k → F j k ∨ P' k := by
  have hk := kx_set w bp 0 v
  have hz : (w.setCell ⟨bp, 0, none⟩ v).heap.size = w.heap.size := by simp
  have kp : ∀ j k, F j k → (w.setCell ⟨bp, 0, none⟩ v).heap[k]? = w.heap[k]? := fun j k hF => hk.block k (h.lt j k hF).2.1 (h.lt j k hF).2.2.1
  refine ⟨up F 0 P', ⟨blk_set h.blk 0 v, fun k o hz => (hk.block k (h.ltz hz) (fun e => by rw [e, h.base.2] at hz; cases hz)).trans (h.zz k o hz), ?_, ?_, ?_, ?_, fun j k hF => ?_, up_sep (n0 := 0) h.sep (fun k hk' j _ => (hf k hk').1 j), h.base, KX.below h.bel hk h.n0 (fun k e => by rw [e]; exact h.base.1)⟩, fun j k hF => by
    by_cases e : j = 0
    · subst e; rw [up_eq] at hF; exact .inr hF
    · rw [up_ne F P' e] at hF; exact .inl hF⟩
  · intro _; rw [up_eq]; exact hP.keep (fun k hlt hF => hk.block k hlt (hf k hF).2.2.2.1)
  · intro e; rw [up_ne F P' (by decide)]; exact (h.D0 (hc 1 (by decide) e)).keep (fun k _ hF => kp 1 k hF)
  · intro e; rw [up_ne F P' (by decide)]; exact (h.M1 (hc 2 (by decide) e)).keep (fun k _ hF => kp 2 k hF)
  · intro e; rw [up_ne F P' (by decide)]; exact (h.D1 (hc 3 (by decide) e)).keep (fun k _ hF => kp 3 k hF)
  · rw [hz]
    by_cases e : j = 0
    · subst e; rw [up_eq] at hF; exact (hf k hF).2
    · rw [up_ne F P' e] at hF; exact h.lt j k hF
theorem Pr.swap1 (h : Pr w0 w bp Z c F m0 m1 d0 d1 s t s' t') {P' : Nat → Prop} (hP : PD w P' w0.heap.size v r) (hf : ∀ k, P' k → (∀ j, ¬ F j k) ∧ w0.heap.size ≤ k ∧ k < w.heap.size ∧ k ≠ bp ∧ Z k = none) (hc : ∀ i, i ≠ 1 → i < c' → i < c) : ∃ F', Pr w0 (w.setCell ⟨bp, 2, none⟩ v) bp Z c' F' m0 m1 v d1 s t r t' ∧ ∀ j k, F' j k → F j k ∨ P' k := by
  have hk := kx_set w bp 2 v
  have hz : (w.setCell ⟨bp, 2, none⟩ v).heap.size = w.heap.size := by simp
  have kp : ∀ j k, F j k → (w.setCell ⟨bp, 2, none⟩ v).heap[k]? = w.heap[k]? := fun j k hF => hk.block k (h.lt j k hF).2.1 (h.lt j k hF).2.2.1
  refine ⟨up F 1 P', ⟨blk_set h.blk 2 v, fun k o hz => (hk.block k (h.ltz hz) (fun e => by rw [e, h.base.2] at hz; cases hz)).trans (h.zz k o hz), ?_, ?_, ?_, ?_, fun j k hF => ?_, up_sep (n0 := 0) h.sep (fun k hk' j _ => (hf k hk').1 j), h.base, KX.below h.bel hk h.n0 (fun k e => by rw [e]; exact h.base.1)⟩, fun j k hF => by
    by_cases e : j = 1
    · subst e; rw [up_eq] at hF; exact .inr hF
    · rw [up_ne F P' e] at hF; exact .inl hF⟩
  · intro e; rw [up_ne F P' (by decide)]; exact (h.M0 (hc 0 (by decide) e)).keep (fun k _ hF => kp 0 k hF)
  · intro _; rw [up_eq]; exact hP.keep (fun k hlt hF => hk.block k hlt (hf k hF).2.2.2.1)
  · intro e; rw [up_ne F P' (by decide)]; exact (h.M1 (hc 2 (by decide) e)).keep (fun k _ hF => kp 2 k hF)
  · intro e; rw [up_ne F P' (by decide)]; exact (h.D1 (hc 3 (by decide) e)).keep (fun k _ hF => kp 3 k hF)
  · rw [hz]
    by_cases e : j = 1
    · subst e; rw [up_eq] at hF; exact (hf k hF).2
    · rw [up_ne F P' e] at hF; exact h.lt j k hF
theorem Pr.swap2 (h : Pr w0 w bp Z c F m0 m1 d0 d1 s t s' t') {P' : Nat → Prop} (hP : PM w P' w0.heap.size v r) (hf : ∀ k, P' k → (∀ j, ¬ F j k) ∧ w0.heap.size ≤ k ∧ k < w.heap.size ∧ k ≠ bp ∧ Z k = none) (hc : ∀ i, i ≠ 2 → i < c' → i < c) : ∃ F', Pr w0 (w.setCell ⟨bp, 1, none⟩ v) bp Z c' F' m0 v d0 d1 s r s' t' ∧ ∀ j k, F' j k → F j k ∨ P' k := by
  have hk := kx_set w bp 1 v
  have hz : (w.setCell ⟨bp, 1, none⟩ v).heap.size = w.heap.size := by simp
  have kp : ∀ j k, F j k → (w.setCell ⟨bp, 1, none⟩ v).heap[k]? = w.heap[k]? := fun j k hF => hk.block k (h.lt j k hF).2.1 (h.lt j k hF).2.2.1
  refine ⟨up F 2 P', ⟨blk_set h.blk 1 v, fun k o hz => (hk.block k (h.ltz hz) (fun e => by rw [e, h.base.2] at hz; cases hz)).trans (h.zz k o hz), ?_, ?_, ?_, ?_, fun j k hF => ?_, up_sep (n0 := 0) h.sep (fun k hk' j _ => (hf k hk').1 j), h.base, KX.below h.bel hk h.n0 (fun k e => by rw [e]; exact h.base.1)⟩, fun j k hF => by
    by_cases e : j = 2
    · subst e; rw [up_eq] at hF; exact .inr hF
    · rw [up_ne F P' e] at hF; exact .inl hF⟩
  · intro e; rw [up_ne F P' (by decide)]; exact (h.M0 (hc 0 (by decide) e)).keep (fun k _ hF => kp 0 k hF)
  · intro e; rw [up_ne F P' (by decide)]; exact (h.D0 (hc 1 (by decide) e)).keep (fun k _ hF => kp 1 k hF)
  · intro _; rw [up_eq]; exact hP.keep (fun k hlt hF => hk.block k hlt (hf k hF).2.2.2.1)
  · intro e; rw [up_ne F P' (by decide)]; exact (h.D1 (hc 3 (by decide) e)).keep (fun k _ hF => kp 3 k hF)
  · rw [hz]
    by_cases e : j = 2
    · subst e; rw [up_eq] at hF; exact (hf k hF).2
    · rw [up_ne F P' e] at hF; exact h.lt j k hF
theorem Pr.swap3 (h : Pr w0 w bp Z c F m0 m1 d0 d1 s t s' t') {P' : Nat → Prop} (hP : PD w P' w0.heap.size v r) (hf : ∀ k, P' k → (∀ j, ¬ F j k) ∧ w0.heap.size ≤ k ∧ k < w.heap.size ∧ k ≠ bp ∧ Z k = none) (hc : ∀ i, i ≠ 3 → i < c' → i < c) : ∃ F', Pr w0 (w.setCell ⟨bp, 3, none⟩ v) bp Z c' F' m0 m1 d0 v s t s' r ∧ ∀ j k, F' j k → F j k ∨ P' k := by
  have hk := kx_set w bp 3 v
  have hz : (w.setCell ⟨bp, 3, none⟩ v).heap.size = w.heap.size := by simp
  have kp : ∀ j k, F j k → (w.setCell ⟨bp, 3, none⟩ v).heap[k]? = w.heap[k]? := fun j k hF => hk.block k (h.lt j k hF).2.1 (h.lt j k hF).2.2.1
  refine ⟨up F 3 P', ⟨blk_set h.blk 3 v, fun k o hz => (hk.block k (h.ltz hz) (fun e => by rw [e, h.base.2] at hz; cases hz)).trans (h.zz k o hz), ?_, ?_, ?_, ?_, fun j k hF => ?_, up_sep (n0 := 0) h.sep (fun k hk' j _ => (hf k hk').1 j), h.base, KX.below h.bel hk h.n0 (fun k e => by rw [e]; exact h.base.1)⟩, fun j k hF => by
    by_cases e : j = 3
    · subst e; rw [up_eq] at hF; exact .inr hF
    · rw [up_ne F P' e] at hF; exact .inl hF⟩
  · intro e; rw [up_ne F P' (by decide)]; exact (h.M0 (hc 0 (by decide) e)).keep (fun k _ hF => kp 0 k hF)
  · intro e; rw [up_ne F P' (by decide)]; exact (h.D0 (hc 1 (by decide) e)).keep (fun k _ hF => kp 1 k hF)
  · intro e; rw [up_ne F P' (by decide)]; exact (h.M1 (hc 2 (by decide) e)).keep (fun k _ hF => kp 2 k hF)
  · intro _; rw [up_eq]; exact hP.keep (fun k hlt hF => hk.block k hlt (hf k hF).2.2.2.1)
  · rw [hz]
    by_cases e : j = 3
    · subst e; rw [up_eq] at hF; exact (hf k hF).2
    · rw [up_ne F P' e] at hF; exact h.lt j k hF
end
end Go.Proofs.Ytijafckdbhklmaa.I
