import Derived.Test.YtncajaihojhkkaaGreatXQB
import Derived.Maps.AppendAt
namespace Go.Proofs.YtncajaihojhkkaaGreat.B
open Go.RowKit Go.Sort Go.Shelf
attribute [local go_sem] Oper.semAt_some
set_option linter.unusedVariables false
set_option linter.unusedSimpArgs false
set_option maxRecDepth 100000

abbrev TRng : TypeId := 63
abbrev TRngs : TypeId := 60
def pcell (p : Int × Int) : List Value := [.int .i64 p.1, .int .i64 p.2]
def pcells (l : List (Int × Int)) : List Value := l.flatMap pcell
theorem pcells_length (l : List (Int × Int)) : (pcells l).length = l.length * 2 := by
  induction l with
  | nil => rfl
  | cons a t ih => simp [pcells, pcell] at ih ⊢; omega
theorem pcells_append (a b : List (Int × Int)) : pcells (a ++ b) = pcells a ++ pcells b := by simp [pcells]
theorem pcells_one (l : List (Int × Int)) : ∀ u ∈ pcells l, u.oneCell' = true := by
  intro u hu
  obtain ⟨r, _, hr⟩ := List.mem_flatMap.1 hu
  simp only [pcell, List.mem_cons, List.not_mem_nil, or_false] at hr
  rcases hr with rfl | rfl <;> rfl
theorem pcells_get (l : List (Int × Int)) (k : Nat) (p : Int × Int) (h : l[k]? = some p) : (pcells l)[k * 2]? = some (.int .i64 p.1) ∧ (pcells l)[k * 2 + 1]? = some (.int .i64 p.2) := by
  induction l generalizing k with
  | nil => simp at h
  | cons a t ih =>
    cases k with
    | zero => simp at h; subst h; simp [pcells, pcell]
    | succ k =>
      simp at h
      have := ih k h
      have e : pcells (a :: t) = pcell a ++ pcells t := by simp [pcells]
      rw [e, List.getElem?_append_right (by simp [pcell]; omega), List.getElem?_append_right (by simp [pcell]; omega)]
      simp only [pcell, List.length_cons, List.length_nil]
      rw [show (k + 1) * 2 - (0 + 1 + 1) = k * 2 by omega, show (k + 1) * 2 + 1 - (0 + 1 + 1) = k * 2 + 1 by omega]
      exact this
/-- the ranges in which a map is true -/
def lst (rs : List (Rn Bool)) : List (Int × Int) := (rs.filter (·.v)).map (fun r => (r.lo, r.hi))
theorem lst_length (rs : List (Rn Bool)) : (lst rs).length ≤ rs.length := by unfold lst; rw [List.length_map]; exact List.length_filter_le _ _
theorem lst_hit (pre : List (Rn Bool)) (x : Rn Bool) (h : x.v = true) : lst (pre ++ [x]) = lst pre ++ [(x.lo, x.hi)] := by simp [lst, h]
theorem lst_miss (pre : List (Rn Bool)) (x : Rn Bool) (h : x.v = false) : lst (pre ++ [x]) = lst pre := by simp [lst, h]
theorem infoRng : (Tryz.prog.info? TRng).map (fun i => (i.zero, i.size, i.bytes)) = some (some (.agg #[.int .i64 0, .int .i64 0]), 2, 16) := by kernel_rfl

theorem keepR_grown {W w1 : World} {n0 e size k : Nat} {v : Value} {xs : List Value} (he : e ≠ TRun) (hrow : W.ownsRow n0 e size v k xs) (hg : W.grownBy w1 v.ownBlock) : KeepR W w1 := fun i cur fr hi => by
  refine (hg.block i (Array.getElem?_eq_some_iff.1 hi).1 (fun ei => ?_)).trans hi
  rcases hrow.2 with ⟨rfl, _⟩ | ⟨g, cap, cur', rfl, _, hc, _⟩
  · simp [Value.ownBlock] at ei
  · simp only [Value.ownBlock, Option.some.injEq] at ei
    subst ei
    rw [hi] at hc
    simp at hc
    exact he hc.2.1.symm
theorem keepR_setBox {W : World} {B t : Nat} {v u : Value} (hb : Boxed W B t v) (ht : t ≠ TRun) : KeepR W (W.setCell ⟨B, 0, none⟩ u) := fun i cur fr hi => by
  refine (Below.heap_setCell _ _ _ _ (fun e => ?_)).trans hi
  have e' : i = B := e
  subst e'
  have := hi.symm.trans hb
  simp at this
  exact ht this.2.1.symm
theorem cells_own (Bx : Nat) (cs : Array Value) (t : TypeId) (B : Nat) : OwnFrom B (fun (_ : Unit) (W : World) => W.heap[Bx]? = some (.cells cs t (0, 0))) := fun s X Y row hs hg hrow => by
  refine (hg.block Bx (Array.getElem?_eq_some_iff.1 hs).1 (fun e => ?_)).trans hs
  obtain ⟨_, o, ho, hc⟩ := hrow Bx e.symm
  rw [hs] at ho; cases ho; simp [Obj.isCells] at hc

theorem news2 (W : World) (a b : Value) : ∀ j u, [a, b][j]? = some u → (W.alloc (.cells #[a, b] TRng)).cell? ((⟨W.heap.size, 0, none⟩ : Addr).add j) = some u := by
  intro j u hu
  rw [WideShapes.add_plain, Nat.zero_add]
  exact (World.cell?_alloc_mark W #[a, b] TRng (0, 0) j).trans (by simpa using hu)
set_option maxHeartbeats 8000000 in
theorem listed_any {w : World} {B bm : Nat} {v : Value} {size : Int} {rs : List (Rn Bool)} (h : MO w B bm v size rs) (hp : 0 < size) :
    Calls Tryz.prog 33 #[.pointer (some ⟨bm, 0, none⟩)] w fun e w' => ∃ v', e = .returned v' ∧ w'.ownsRow w.heap.size TRng 2 v' (lst rs).length (pcells (lst rs)) ∧ Below w.heap.size w w' := by
  obtain ⟨i0, hi, hz0, hz1, hz2⟩ := info_parts infoRng
  obtain ⟨g, cap, rfl, hg1, hg2, hcap, hrm⟩ := h.rm hp
  have hcut := cut_full hrm.tiles hp
  have hlen : rs.length ≤ 1099511627776 := h.len
  have c1 : w.cell? ⟨bm, 1, none⟩ = some (.int .i64 size) := hrm.c1
  have hle : size ≤ 1099511627776 := h.le
  refine (callsIn_wide (n := 4)).1 ?_
  have h42 : Fence.wide.fn 33 := trivial
  have h57 : Fence.wide.fn 44 := trivial
  have h67 : Fence.wide.fn 58 := trivial
  clear h
  refine callsIn_of_wp_marks Tryz.func33 rfl h42 ?_ rfl
  simp only [Tryz.ntmps33, List.size_toArray, List.length_cons, List.length_nil, Nat.reduceAdd, Nat.reduceSub, Array.replicate_succ, Array.replicate_zero, List.push_toArray, List.append_toArray, List.nil_append, List.cons_append]
  have c1' : (w.alloc (.cells #[.slice none 0 0] TRngs)).cell? ⟨bm, 1, none⟩ = some (.int .i64 size) := cell_later ((Below.refl _ w).alloc (Nat.le_refl _) _) c1
  gi_wp2_with (gi_at_call 44; refine (callsIn_wide.2 (runs_any _ _ _ _)).mono ?_; rintro e w' ⟨rfl, rfl⟩)
  obtain ⟨W0, hW0⟩ : ∃ W0, W0 = (((w.alloc (.cells #[.slice none 0 0] TRngs)).alloc (.cells #[.pointer (some ⟨bm, 0, none⟩)] 80)).alloc (.cells #[.int .i64 0] 2)).alloc (.cells #[.int .i64 size] 2) := ⟨_, rfl⟩
  have hB0 : Below w.heap.size w W0 := by rw [hW0]; exact ((((Below.refl _ w).alloc (Nat.le_refl _) _).alloc (by simp) _).alloc (by simp; omega) _).alloc (by simp; omega) _
  have hs0 : W0.heap.size = w.heap.size + 4 := by rw [hW0]; simp
  have bO : Boxed W0 w.heap.size TRngs (.slice none 0 0) := by rw [hW0]; exact (((Boxed.new w TRngs (.slice none 0 0)).alloc _).alloc _).alloc _
  have bx1 : W0.cell? ⟨w.heap.size + 1, 0, none⟩ = some (.pointer (some ⟨bm, 0, none⟩)) := by
    have := Boxed.new (w.alloc (.cells #[.slice none 0 0] TRngs)) 80 (.pointer (some ⟨bm, 0, none⟩))
    rw [World.size_alloc] at this
    rw [hW0]; exact ((this.alloc _).alloc _).cell
  have bx2 : W0.cell? ⟨w.heap.size + 2, 0, none⟩ = some (.int .i64 0) := by
    have := Boxed.new ((w.alloc (.cells #[.slice none 0 0] TRngs)).alloc (.cells #[.pointer (some ⟨bm, 0, none⟩)] 80)) 2 (.int .i64 0)
    rw [World.size_alloc, World.size_alloc] at this
    rw [hW0]; exact (this.alloc _).cell
  have bx3 : W0.cell? ⟨w.heap.size + 3, 0, none⟩ = some (.int .i64 size) := by
    have := Boxed.new (((w.alloc (.cells #[.slice none 0 0] TRngs)).alloc (.cells #[.pointer (some ⟨bm, 0, none⟩)] 80)).alloc (.cells #[.int .i64 0] 2)) 2 (.int .i64 size)
    rw [World.size_alloc, World.size_alloc, World.size_alloc] at this
    rw [hW0]; exact this.cell
  have hseq := runs1_stops 3 (by omega) (hrm.later hB0) hle 0 size 0 size (by omega) (by omega) hp bx1 bx2 bx3
  rw [hcut] at hseq
  rw [← hW0]
  clear bx1 bx2 bx3 hcut c1 c1'
  refine wpIn_rangeFunc_ownH rfl (by omega) (gf := 58) (lb := #[.pointer (some ⟨w.heap.size + 1, 0, none⟩), .pointer (some ⟨w.heap.size + 2, 0, none⟩), .pointer (some ⟨w.heap.size + 3, 0, none⟩)]) rfl h67 (enters_of Tryz.func58 (by kernel_rfl) rfl)
    hseq keepR_t (keepR_b (w := W0)) (Below.refl _ _) (fun _ => rfl)
    (fun pre W => (∃ v, Boxed W w.heap.size TRngs v ∧ W.ownsRow w.heap.size TRng 2 v (lst pre).length (pcells (lst pre)) ∧ True) ∧ Below w.heap.size w W)
    (fun _ _ _ => False)
    (OwnFrom.and (Own.from (holdsRow_own w.heap.size w.heap.size TRngs TRng 2 (fun pre => (lst pre).length) (fun pre => pcells (lst pre)) (fun _ _ => True)) _) (ownFrom_below (Nat.le_refl _) (by omega)))
    (fun _ _ _ _ _ hs _ _ => hs)
    ⟨⟨_, bO, World.ownsRow_nil _ _ _ _, trivial⟩, hB0⟩
    (fun x a' W => ∃ Bx, W.heap[Bx]? = some (.cells #[.int .i64 x.lo, .int .i64 x.hi, .bool x.v] TRun (0, 0)) ∧ a' = { tmps := #[.pointer (some ⟨bm, 0, none⟩), undef, .slice none 0 0, .pointer (some ⟨w.heap.size, 0, none⟩), .pointer (some ⟨Bx, 0, none⟩), .pointer (some ⟨bm, 0, none⟩), .pointer (some ⟨bm, 0, none⟩), .pointer (some ⟨bm, 0, none⟩), .pointer (some ⟨bm, 1, none⟩), .int .i64 size, .func (.func 58) #[] #[.pointer (some ⟨w.heap.size + 1, 0, none⟩), .pointer (some ⟨w.heap.size + 2, 0, none⟩), .pointer (some ⟨w.heap.size + 3, 0, none⟩)], .agg #[.int .i64 x.lo, .int .i64 x.hi, .bool x.v], undef, undef, undef, undef, undef, undef, undef, undef, undef, undef, undef], defers := [] })
    (fun x a' s X Y row hs hg hrow => by
      obtain ⟨Bx, hx, e⟩ := hs
      exact ⟨Bx, cells_own Bx _ _ _ () X Y row hx hg hrow, e⟩)
    ?assign ?body ?done ?stop
  case assign =>
    rintro l pre x W K ⟨⟨v, hv, hrow, _⟩, hB⟩ hK
    gi_wp2
    exact hK _ _ ((KeepsOthers.alloc _ _).from _) (keepR_below ((Below.refl _ W).alloc (Nat.le_refl _) _)) ⟨⟨v, hv.alloc _, hrow.alloc _, trivial⟩, hB.alloc hB.size _⟩ ⟨W.heap.size, heap_alloc_new W _, rfl⟩
  case body =>
    rintro l pre x a' W hl ⟨r, hr⟩ ⟨⟨v, hv, hrow, _⟩, hB⟩ ⟨Bx, hx, rfl⟩ hlt
    have hc := hv.cell
    have hfz := hv.frozen
    have x0 : W.cell? ⟨Bx, 0, none⟩ = some (.int .i64 x.lo) := by unfold World.cell?; simp only [hx]; rfl
    have x1 : W.cell? ⟨Bx, 1, none⟩ = some (.int .i64 x.hi) := by unfold World.cell?; simp only [hx]; rfl
    have x2 : W.cell? ⟨Bx, 2, none⟩ = some (.bool x.v) := by unfold World.cell?; simp only [hx]; rfl
    have hpl := lst_length pre
    by_cases hxv : x.v = true
    · have HH := lst_hit pre x hxv
      rw [hxv] at x2
      have hle2 : w.heap.size ≤ w.heap.size := Nat.le_refl _
      gi_wp2_with (gi_at_builtin; refine wpListIn_append_own _ rfl _ _ TRngs rfl w.heap.size TRng i0 _ 2 16 Tryz.underlying60 hi hz0 hz1 hz2 rfl (by decide) _ _ _ rfl (hrow.alloc _) ⟨W.heap.size, 0, none⟩ 1 1 [.int .i64 x.lo, .int .i64 x.hi] rfl rfl (news2 _ _ _) (by simp [Value.oneCell']) (by unfold maxLen; omega) (by omega) (by have := hB.size; simp; omega) ?_; intro v' w1 hown' hgrow _; obtain ⟨g', cap', rfl⟩ := ownsRow_succ hown'; obtain ⟨hv1, hv2, hr2, hk2, hb2⟩ := hv.appended (by decide) hrow hB.size hle2 hown' hgrow; have hc1 := hv1.cell; have hf1 := hv1.frozen)
      refine ⟨hk2.from _, ?_, ⟨⟨_, hv2, ?_, trivial⟩, hB.trans hb2⟩⟩
      · exact keepR_t (keepR_below ((Below.refl _ W).alloc (Nat.le_refl _) _)) (keepR_t (keepR_grown (by decide) (hrow.alloc _) hgrow) (keepR_setBox hv1 (by decide)))
      · rw [HH, pcells_append]
        simpa [pcells, pcell] using hr2
    · have hxf : x.v = false := by simpa using hxv
      have HH := lst_miss pre x hxf
      rw [hxf] at x2
      gi_wp2
      refine ⟨KeepsFrom.refl _ _, fun _ _ _ h => h, ⟨⟨v, hv, by rw [HH]; exact hrow, trivial⟩, hB⟩⟩
  case done =>
    rintro D ys W hD rfl ⟨⟨v, hv, hrow, _⟩, hB⟩ hK
    have hc := hv.cell
    gi_wp2
    refine ⟨by simp, .inl ⟨_, _, rfl, run_takeDeferred hK, ?_⟩⟩
    exact ⟨_, results_tmp rfl _ _ _, v, rfl, ownsRow_putObj hrow _ hK rfl, hB.trans (belowK_b (w := w) (Nat.le_refl _) W D _ _ (by omega) hK rfl rfl)⟩
  case stop =>
    rintro D c pre W _ _ h _
    exact h.elim
end Go.Proofs.YtncajaihojhkkaaGreat.B
