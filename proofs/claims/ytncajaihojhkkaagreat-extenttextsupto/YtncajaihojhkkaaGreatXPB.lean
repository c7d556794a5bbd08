import Derived.Test.YtncajaihojhkkaaGreatXNB
import Derived.Test.YtncajaihojhkkaaGreatXG
import Derived.Deep.RegionHeld3
import Derived.Deep.RegionWith
namespace Go.Proofs.YtncajaihojhkkaaGreat.B
open Go.RowKit Go.Sort
set_option linter.unusedVariables false
set_option linter.unusedSimpArgs false
set_option maxRecDepth 100000

def setLo (l : List (Rn Bool)) (x : Int) : List (Rn Bool) := match l with
  | [] => []
  | r :: t => { r with lo := x } :: t
def setHi (l : List (Rn Bool)) (x : Int) : List (Rn Bool) := match l.getLast? with
  | some q => l.dropLast ++ [{ q with hi := x }]
  | none => l
/-- the runs of a part -/
def cut (rs : List (Rn Bool)) (lo hi : Int) : List (Rn Bool) := setHi (setLo ((rs.drop (find rs lo)).take (find rs (hi - 1) + 1 - find rs lo)) lo) hi
theorem setLo_length (l : List (Rn Bool)) (x : Int) : (setLo l x).length = l.length := by cases l <;> rfl
theorem setHi_length (l : List (Rn Bool)) (x : Int) : (setHi l x).length = l.length := by
  unfold setHi
  cases h : l.getLast? with
  | none => rfl
  | some q =>
    have : l ≠ [] := by rintro rfl; cases h
    have : 0 < l.length := List.length_pos_iff.2 this
    simp; omega
theorem setLo_cells (l : List (Rn Bool)) (x : Int) (h : l ≠ []) : rcells E (setLo l x) = (rcells E l).set 0 (.int .i64 x) := by
  cases l with
  | nil => exact absurd rfl h
  | cons r t => simp [setLo, rcells, rcell]
theorem setHi_cells (l : List (Rn Bool)) (x : Int) (k : Nat) (h : l.length = k + 1) : rcells E (setHi l x) = (rcells E l).set (k * 3 + 1) (.int .i64 x) := by
  unfold setHi
  cases hq : l.getLast? with
  | none =>
    have : l = [] := by simpa using hq
    subst this; simp at h
  | some q =>
    have hs := snoc_of_last hq
    have hk : l.dropLast.length = k := by rw [List.length_dropLast]; omega
    simp only
    rw [← set_hi l.dropLast q x, ← hs, hk]
theorem tiles_lo {lo hi : Int} {r : Rn Bool} {t : List (Rn Bool)} (h : Tiles lo hi (r :: t)) : r.lo = lo := h.1
theorem tiles_hi {lo hi : Int} {rs : List (Rn Bool)} {q : Rn Bool} (h : Tiles lo hi rs) (hq : rs.getLast? = some q) : q.hi = hi := by
  have hs := snoc_of_last hq
  rw [hs] at h
  exact (tiles_snoc.1 h).2.2
theorem find_first {size : Int} {rs : List (Rn Bool)} (h : Tiles 0 size rs) (hp : 0 < size) : find rs 0 = 0 := by
  obtain ⟨A, x, B, e, hl, x1, x2, x3, x4⟩ := find_split h (i := 0) (by omega) hp
  have h0 := x3.le
  have e0 : x.lo = 0 := by omega
  rw [e0] at x3
  rw [x3.empty] at hl
  exact hl.symm
theorem find_last {size : Int} {rs : List (Rn Bool)} (h : Tiles 0 size rs) (hp : 0 < size) : find rs (size - 1) + 1 = rs.length := by
  obtain ⟨A, x, B, e, hl, x1, x2, x3, x4⟩ := find_split h (i := size - 1) (by omega) (by omega)
  have h0 := x4.le
  have e0 : x.hi = size := by omega
  rw [e0] at x4
  rw [x4.empty] at e
  rw [← hl]
  conv => rhs; rw [e]
  simp
theorem cut_full {size : Int} {rs : List (Rn Bool)} (h : Tiles 0 size rs) (hp : 0 < size) : cut rs 0 size = rs := by
  unfold cut
  rw [find_first h hp, find_last h hp, List.drop_zero, Nat.sub_zero, List.take_length]
  have e1 : setLo rs 0 = rs := by
    cases rs with
    | nil => rfl
    | cons r t => have := tiles_lo h; cases r; simp only at this; subst this; rfl
  rw [e1]
  unfold setHi
  cases hq : rs.getLast? with
  | none => rfl
  | some q =>
    have := tiles_hi h hq
    have hs := snoc_of_last hq
    simp only
    conv => rhs; rw [hs]
    cases q; simp only at this; subst this; rfl

theorem below_drew {B : Nat} {w x : World} (h : Below B w x) : Below B w x.drew := ⟨h.os, h.tape, h.output, h.size, h.block⟩
theorem below_drew' (w : World) : Below w.heap.size w w.drew := below_drew (Below.refl _ _)
set_option maxHeartbeats 8000000 in
theorem part_any {w : World} {bm g cap : Nat} {size : Int} {rs : List (Rn Bool)} (h : RM w bm g cap size rs) (hs : size ≤ 1099511627776) (lo hi lo' hi' : Int) (e1 : Hid (lo' = max lo 0)) (e2 : Hid (hi' = min hi size)) (hlt : lo' < hi') :
    Calls Tryz.prog 59 #[.pointer (some ⟨bm, 0, none⟩), .int .i64 lo, .int .i64 hi] w fun e w' => ∃ gv c, e = .returned (.slice (some ⟨gv, 0, none⟩) (cut rs lo' hi').length c) ∧ w'.ownsRow w.heap.size TRun 3 (.slice (some ⟨gv, 0, none⟩) (cut rs lo' hi').length c) (cut rs lo' hi').length (rcells E (cut rs lo' hi')) ∧ Below w.heap.size w w' := by
  have mixed : Tryz.prog.follows .mixedOrders = true := by kernel_rfl
  obtain ⟨i0, hi0, hz0, hz1, hz2⟩ := info_parts infoRun
  have hb : 0 ≤ lo' ∧ hi' ≤ size := by have := e1.out; have := e2.out; omega
  obtain ⟨A, x, A', s1, l1, x1, x2, x3, x4⟩ := find_split h.tiles (i := lo') hb.1 (by omega)
  obtain ⟨B', y, B2, s2, l2, y1, y2, y3, y4⟩ := find_split h.tiles (i := hi' - 1) (by omega) (by omega)
  have hab : find rs lo' ≤ find rs (hi' - 1) := by
    unfold find
    refine List.countP_mono_left ?_
    intro r _ hr
    simp at hr ⊢; omega
  have hbn : find rs (hi' - 1) < rs.length := by
    have hh : rs.length = (B' ++ y :: B2).length := congrArg List.length s2
    simp at hh
    omega
  obtain ⟨fa, hfa⟩ : ∃ fa, fa = find rs lo' := ⟨_, rfl⟩
  obtain ⟨fb, hfb⟩ : ∃ fb, fb = find rs (hi' - 1) := ⟨_, rfl⟩
  have HFa : Hid (find rs lo' = fa) := hfa.symm
  have HFb : Hid (find rs (hi' - 1) = fb) := hfb.symm
  rw [← hfa, ← hfb] at hab
  rw [← hfb] at hbn
  clear hfa hfb s1 l1 x1 x2 x3 x4 s2 l2 y1 y2 y3 y4
  obtain ⟨k, hk⟩ : ∃ k, fb + 1 - fa = k + 1 := ⟨fb - fa, by omega⟩
  obtain ⟨sub, hsub⟩ : ∃ sub, sub = (rs.drop fa).take (k + 1) := ⟨_, rfl⟩
  have hsl : sub.length = k + 1 := by rw [hsub, List.length_take, List.length_drop]; omega
  have hne : sub ≠ [] := by rintro rfl; simp at hsl
  have HC : Hid (cut rs lo' hi' = setHi (setLo sub lo') hi') := by
    show cut rs lo' hi' = _
    unfold cut; rw [HFa.out, HFb.out, hk, ← hsub]
  have hcl : (cut rs lo' hi').length = k + 1 := by rw [HC.out, setHi_length, setLo_length, hsl]
  have hcc : rcells E (cut rs lo' hi') = ((rcells E sub).set 0 (.int .i64 lo')).set (k * 3 + 1) (.int .i64 hi') := by
    rw [HC.out, setHi_cells _ _ k (by rw [setLo_length, hsl]), setLo_cells _ _ hne]
  rw [hcl, hcc]
  have hlen := h.small
  have hcap := h.hcap
  have HSc : Hid (∀ j u, (rcells E sub)[j]? = some u → w.cell? ⟨g, fa * 3 + j, none⟩ = some u) := fun j u hu => by
    apply h.cs
    rw [hsub, ← rcells_take, ← rcells_drop] at hu
    rw [List.getElem?_take] at hu
    split at hu
    · rw [List.getElem?_drop] at hu; exact hu
    · cases hu
  have HF : Hid (∀ W' i, Below w.heap.size w W' → Calls Tryz.prog 69 #[.pointer (some ⟨bm, 0, none⟩), .int .i64 i] W' fun e w' => e = .returned (.int .i64 (find rs i : Nat)) ∧ Below w.heap.size w w') := fun W' i hb' =>
    (find_any (h.later hb') i).mono fun e w' ⟨he, q, os, hq⟩ => ⟨he, by rw [hq]; exact hb'.trans ((below_of_grow _ W' q os (Nat.le_refl _)).mono hb'.size)⟩
  have HCl : Hid (∀ W', Below w.heap.size w W' → Calls Tryz.prog 68 #[.slice (some ⟨g, fa * 3, none⟩) (k + 1) (cap - fa)] W' fun e w' => ∃ gv c, e = .returned (.slice (some ⟨gv, 0, none⟩) (k + 1) c) ∧ w.heap.size ≤ gv ∧ w'.ownsRow w.heap.size TRun 3 (.slice (some ⟨gv, 0, none⟩) (k + 1) c) (k + 1) (rcells E sub) ∧ Below w.heap.size w w') := fun W' hb' => by
    have := AnyE.slices_Clone Tryz.cloneB i0 _ 3 24 hi0 hz0 hz1 hz2 rfl (by decide) Tryz.sizeOf96 g (fa * 3) (k + 1) (cap - fa) (rcells E sub) W' (by rw [rcells_length, hsl]) (by unfold maxLen; omega) (by have := h.tiles.length; omega) (fun j u hu => cell_later hb' (HSc.out j u hu)) (rcells_one sub)
    change Calls Tryz.prog 68 _ _ _ at this
    refine this.mono ?_
    rintro e w' ⟨v', rfl, ho, _, hb2⟩
    obtain ⟨gv, c, rfl, hg1, hg2⟩ := owns_some ho (by omega)
    exact ⟨gv, c, rfl, Nat.le_trans hb'.size hg1, owns_mono ho hb'.size, hb'.trans (hb2.mono hb'.size)⟩
  have c0 := h.c0
  have c1 := h.c1
  have c2 := h.c2
  have b1 : Hid (max lo 0 = lo') := e1.out.symm
  have b2 : Hid (min hi size = hi') := e2.out.symm
  have b3 : ¬ hi' ≤ lo' := by omega
  obtain ⟨h1, hh1⟩ : ∃ h1, h1 = hi' - 1 := ⟨_, rfl⟩
  have HFb1 : Hid (find rs h1 = fb) := by rw [hh1]; exact HFb
  have w1 : IntKind.i64.wrap (hi' - 1) = h1 := by rw [IntKind.wrap_i64, hh1]; omega
  clear hh1
  have w2 : IntKind.i64.wrap ((fb : Int) + 1) = (fb : Int) + 1 := by rw [IntKind.wrap_i64]; omega
  have w3 : IntKind.i64.wrap (k : Int) = (k : Int) := wrap_nat k (by omega)
  have a1 : (0 : Int) ≤ (fa : Int) := by omega
  have a2 : (fa : Int) ≤ (fb : Int) + 1 := by omega
  have a3 : (fb : Int) + 1 ≤ (cap : Int) := by omega
  have a4 : fb + 1 - fa = k + 1 := hk
  have a5 : ¬ cap = fa := by omega
  obtain ⟨n, hn⟩ : ∃ n, n = rs.length := ⟨_, rfl⟩
  rw [← hn] at c2
  have HH : Hid (RM w bm g cap size rs) := h
  clear h hsub hne hcl hcc hn e1 e2
  go_enter Tryz.func59, Tryz.ntmps59
  go_wp2_with (go_at_call 64; refine (usable_at bm true _ c0).mono ?_; rintro e w9 ⟨rfl, hw9⟩; rw [hw9]; clear hw9)
  go_region
  rw [b1.out, b2.out]
  go_wp2
  go_region_held3 (fun w' => w'.cell? ⟨bm, 2, none⟩ = some (.slice (some ⟨g, 0, none⟩) n cap)) (first | go_keep | exact cell_later (by assumption) c2) (first | (go_at_call_of 69 (Value.int .i64 lo'); refine (HF.out _ lo' (by first | assumption | exact below_drew (below_drew' _))).mono ?_; rw [HFa.out]; rintro e wa ⟨rfl, hba⟩) | (go_at_call_of 69 (Value.int .i64 h1); refine (HF.out _ h1 hba).mono ?_; rw [HFb1.out]; rintro e wb ⟨rfl, hbb⟩) | (go_at_call 68; refine (HCl.out _ hbb).mono ?_; rintro e wc ⟨gv, c, rfl, hgv, hoc, hbc⟩) | fail)
  have o1 := hoc.stored 0 (.int .i64 lo')
  have o2 := o1.1.stored (k * 3 + 1) (.int .i64 hi')
  have g0 : ∃ u, wc.cell? ⟨gv, 0, none⟩ = some u := by
    have := hoc.cellAt 0 (by omega)
    rw [List.getElem?_eq_getElem (by rw [rcells_length]; omega)] at this
    exact ⟨_, this⟩
  have g1 : ∃ u, (wc.setCell ⟨gv, 0, none⟩ (.int .i64 lo')).cell? ⟨gv, k * 3 + 1, none⟩ = some u := by
    have := o1.1.cellAt (k * 3 + 1) (by omega)
    rw [List.getElem?_eq_getElem (by rw [List.length_set, rcells_length]; omega)] at this
    exact ⟨_, this⟩
  obtain ⟨u0, g0⟩ := g0
  obtain ⟨u1, g1⟩ := g1
  have f0 : wc.frozen? ⟨gv, 0, none⟩ = false := hoc.frozenAt 0
  have f1 : (wc.setCell ⟨gv, 0, none⟩ (.int .i64 lo')).frozen? ⟨gv, k * 3 + 1, none⟩ = false := o1.1.frozenAt _
  have f2 : wc.frozen? ⟨gv, k * 3 + 1, none⟩ = false := hoc.frozenAt _
  have k1 : (k : Int) < (k : Int) + 1 := by omega
  have k2 : (k : Int) < ((k + 1 : Nat) : Int) := by omega
  have HO2 : Hid (((wc.setCell ⟨gv, 0, none⟩ (.int .i64 lo')).setCell ⟨gv, k * 3 + 1, none⟩ (.int .i64 hi')).ownsRow w.heap.size TRun 3 (.slice (some ⟨gv, 0, none⟩) (k + 1) c) (k + 1) (((rcells E sub).set 0 (.int .i64 lo')).set (k * 3 + 1) (.int .i64 hi')) ∧ Below w.heap.size w ((wc.setCell ⟨gv, 0, none⟩ (.int .i64 lo')).setCell ⟨gv, k * 3 + 1, none⟩ (.int .i64 hi'))) := ⟨o2.1, (hbc.setCell (p := ⟨gv, 0, none⟩) hgv _).setCell (p := ⟨gv, k * 3 + 1, none⟩) hgv _⟩
  clear o1 o2 hoc hbc hba hbb
  go_wp2
  go_ret
  exact ⟨_, _, rfl, HO2.out.1, HO2.out.2⟩
end Go.Proofs.YtncajaihojhkkaaGreat.B
