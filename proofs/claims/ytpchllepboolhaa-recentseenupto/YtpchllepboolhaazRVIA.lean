import Derived.Test.YtpchllepboolhaazRUIA
import Derived.Maps.OwnIn
namespace Go.Proofs.Ytpchllepboolhaa.I.A
open Go.RowKit Go.Maps Go.Shelf Go.Proofs.Ytpchllepboolhaa.I
attribute [local go_sem] Oper.semAt_some
set_option linter.unusedVariables false
set_option linter.unusedSimpArgs false
set_option maxRecDepth 100000

abbrev TPo : TypeId := 23
abbrev TPf : TypeId := 94
theorem func_any (w : World) (m : Option Addr) : Calls Try.prog 45 #[.pointer m] w fun e w' =>
    e = .returned (.func (.func 87) #[] #[.pointer (some ⟨w.heap.size, 0, none⟩), .pointer (some ⟨w.heap.size + 1, 0, none⟩)]) ∧ w' = (w.alloc (.cells #[.pointer m] TPo)).alloc (.cells #[.func (.func 73) #[] #[]] TPf) := by
  have hmf : ∀ (fn : Fn) (first cap : Array Value) (w : World), (Instr.makeFunc fn first cap).run Try.prog w = .ok (.func fn first cap) w := fun _ _ _ _ => rfl
  have ht : ∀ (w : World) (fn : Fn) (fa fb : Array Value), Calls Try.prog 72 #[.pointer m, .func fn fa fb] w fun e w' =>
    e = .returned (.func (.func 87) #[] #[.pointer (some ⟨w.heap.size, 0, none⟩), .pointer (some ⟨w.heap.size + 1, 0, none⟩)]) ∧ w' = (w.alloc (.cells #[.pointer m] TPo)).alloc (.cells #[.func fn fa fb] TPf) := by
    intro w fn fa fb
    go_enter Try.func72, Try.ntmps72
    go_wp2
    go_ret
    exact ⟨rfl, rfl⟩
  go_enter Try.func45, Try.ntmps45
  go_wp2_with (go_at_call 72; refine (ht _ _ _ _).mono ?_; rintro e w9 ⟨rfl, hw9⟩; rw [hw9]; clear hw9)
  go_ret
  exact ⟨rfl, rfl⟩

/-- no row of the list that the body gathers -/
def FineL (Bl k : Nat) (W : World) : Prop := ∃ v, Boxed W Bl TKeys v ∧ v.ownBlock ≠ some k
def KpL (Bl : Nat) (W W' : World) : Prop := ∀ (k : Nat) (cur : Array Value) (fr : Nat × Nat), FineL Bl k W → W.heap[k]? = some (.cells cur TKey fr) → W'.heap[k]? = some (.cells cur TKey fr) ∧ FineL Bl k W'
theorem kpL_row (Bl : Nat) : KeepsRow (KpL Bl) (FineL Bl) := ⟨fun h hf hc => h _ _ _ hf hc⟩
theorem kpL_refl (Bl : Nat) (W : World) : KpL Bl W W := fun _ _ _ hf hc => ⟨hc, hf⟩
theorem kpL_t {Bl : Nat} {A B C : World} (h : KpL Bl A B) (k : KpL Bl B C) : KpL Bl A C := fun i cur fr hf hi => k i cur fr (h i cur fr hf hi).2 (h i cur fr hf hi).1
theorem kpL_b {w : World} {Bl : Nat} (W : World) (l : Nat) (o o' : Obj) (_ : w.heap.size ≤ l) (h : W.heap[l]? = some o) (hc : o.isCells = false) (_ : o.isWalk = false) : KpL Bl W (W.putObj l o') := fun i cur fr hf hi => by
  have hne : ∀ {i : Nat} {cur : Array Value} {T : TypeId} {fr : Nat × Nat}, W.heap[i]? = some (.cells cur T fr) → i ≠ l := by
    rintro i cur T fr hi rfl
    rw [h] at hi
    cases hi
    simp [Obj.isCells] at hc
  obtain ⟨v, hb, hv⟩ := hf
  exact ⟨(World.putObj_heap_other (hne hi)).trans hi, v, (World.putObj_heap_other (hne hb)).trans hb, hv⟩
theorem kpL_below {Bl : Nat} {W W' : World} (h : Below W.heap.size W W') : KpL Bl W W' := fun i cur fr hf hi => by
  obtain ⟨v, hb, hv⟩ := hf
  exact ⟨(h.block i (Array.getElem?_eq_some_iff.1 hi).1).trans hi, v, (h.block Bl hb.lt).trans hb, hv⟩
/-- what 'l = append(l, k)' leaves -/
theorem kpL_app {Bl : Nat} {W w1 : World} {v v' : Value} {tmp : Obj} (hbx : Boxed W Bl TKeys v) (hg : (W.alloc tmp).grownBy w1 v.ownBlock) (hb1 : Boxed w1 Bl TKeys v) (hv' : ∀ k, v'.ownBlock = some k → v.ownBlock = some k ∨ W.heap.size ≤ k) : KpL Bl W (w1.setCell ⟨Bl, 0, none⟩ v') := fun i cur fr hf hi => by
  obtain ⟨u, hb, hv⟩ := hf
  have eu : u = v := by
    have := (show W.heap[Bl]? = _ from hb).symm.trans hbx
    simp at this; exact this
  subst eu
  have hlt := (Array.getElem?_eq_some_iff.1 hi).1
  have hne : i ≠ Bl := by
    rintro rfl
    have := hi.symm.trans hb
    simp at this
    exact absurd this.2.1 (by decide)
  have h1 : w1.heap[i]? = some (.cells cur TKey fr) := (hg.block i (by rw [World.size_alloc]; omega) (fun e => hv e.symm)).trans ((Below.heap_alloc _ _ _ hlt).trans hi)
  exact ⟨(Below.heap_setCell _ _ _ _ hne).trans h1, v', hb1.set v', fun e => (hv' i e).elim hv (fun h => by omega)⟩
theorem news1 (W : World) (a : Value) : ∀ j u, [a][j]? = some u → (W.alloc (.cells #[a] TKey)).cell? ((⟨W.heap.size, 0, none⟩ : Addr).add j) = some u := World.news_of_block (heap_alloc_new W _)

set_option maxHeartbeats 8000000 in
/-- the law's own gathering -/
theorem law_any {w : World} {bo bm g : Nat} {L : List Ent} (h : RO w bo bm g L) (hlen : L.length * 8 ≤ 140737488355328) :
    Calls Try.prog 36 #[.pointer (some ⟨bo, 0, none⟩)] w fun e w' => ∃ v, e = .returned v ∧ w'.ownsRow w.heap.size TKey 1 v (picked L).length (KV (picked L)) ∧ Below w.heap.size w w' := by
  obtain ⟨i0, hi, hz0, hz1, hz2⟩ := info_parts infoKey
  have qs : ∀ (w : World) (f : Fn) (a b : Array Value), (binOp .eql 59 (.func f a b) .nilFunc).run Try.prog w = .ok (.bool false) w := fun _ _ _ _ => rfl
  have hpl := picked_length L
  obtain ⟨xs, hxs⟩ : ∃ xs, xs = picked L := ⟨_, rfl⟩
  rw [← hxs] at hpl ⊢
  have HX : Hid (xs = picked L) := hxs
  clear hxs
  refine (callsIn_wide (n := 4)).1 ?_
  have f0 : Fence.wide.fn 36 := trivial
  have f1 : Fence.wide.fn 45 := trivial
  have f2 : Fence.wide.fn 87 := trivial
  refine callsIn_of_wp_marks Try.func36 rfl f0 ?_ rfl
  simp only [Try.ntmps36, List.size_toArray, List.length_cons, List.length_nil, Nat.reduceAdd, Nat.reduceSub, Array.replicate_succ, Array.replicate_zero, List.push_toArray, List.append_toArray, List.nil_append, List.cons_append]
  gi_wp2_with (gi_at_call 45; refine (callsIn_wide.2 (func_any _ _)).mono ?_; rintro e w' ⟨rfl, rfl⟩)
  obtain ⟨W0, hW0⟩ : ∃ W0, W0 = ((w.alloc (.cells #[.slice none 0 0] TKeys)).alloc (.cells #[.pointer (some ⟨bo, 0, none⟩)] TPo)).alloc (.cells #[.func (.func 73) #[] #[]] TPf) := ⟨_, rfl⟩
  have hB0 : Below w.heap.size w W0 := by rw [hW0]; exact (((Below.refl _ w).alloc (Nat.le_refl _) _).alloc (by simp) _).alloc (by simp; omega) _
  have hs0 : W0.heap.size = w.heap.size + 3 := by rw [hW0]; simp
  have bO : Boxed W0 w.heap.size TKeys (.slice none 0 0) := by rw [hW0]; exact ((Boxed.new w TKeys (.slice none 0 0)).alloc _).alloc _
  have bx1 : W0.cell? ⟨w.heap.size + 1, 0, none⟩ = some (.pointer (some ⟨bo, 0, none⟩)) := by
    have := Boxed.new (w.alloc (.cells #[.slice none 0 0] TKeys)) TPo (.pointer (some ⟨bo, 0, none⟩))
    rw [World.size_alloc] at this
    rw [hW0]; exact (this.alloc _).cell
  have bx2 : W0.cell? ⟨w.heap.size + 1 + 1, 0, none⟩ = some (.func (.func 73) #[] #[]) := by
    have := Boxed.new ((w.alloc (.cells #[.slice none 0 0] TKeys)).alloc (.cells #[.pointer (some ⟨bo, 0, none⟩)] TPo)) TPf (.func (.func 73) #[] #[])
    rw [World.size_alloc, World.size_alloc] at this
    rw [hW0]; exact this.cell
  have hseq := seq_any 3 (by omega) (kpL_row w.heap.size) (h.later hB0) bx1 bx2 (by omega) hlen (fun W w1 k hW hb hk hk2 => ⟨_, (hb.block w.heap.size (by have := hW.size; omega)).trans ((hW.block w.heap.size (by omega)).trans bO), by simp [Value.ownBlock]⟩)
  rw [← hW0]
  clear bx1 bx2
  rw [← HX.out] at hseq
  have hxl : xs.length ≤ 17592186044416 := by omega
  clear h hlen HX hpl
  refine wpIn_rangeFunc_ownH rfl (by omega) (gf := 87) (lb := #[.pointer (some ⟨w.heap.size + 1, 0, none⟩), .pointer (some ⟨w.heap.size + 1 + 1, 0, none⟩)]) rfl f2 (enters_of Try.func87 (by kernel_rfl) rfl)
    hseq kpL_t (kpL_b (w := W0)) (Below.refl _ _) (fun _ => rfl)
    (fun pre W => (∃ v, Boxed W w.heap.size TKeys v ∧ W.ownsRow w.heap.size TKey 1 v pre.length (KV pre) ∧ True) ∧ Below w.heap.size w W)
    (fun _ _ _ => False)
    (OwnFrom.and (Own.from (holdsRow_own w.heap.size w.heap.size TKeys TKey 1 (fun (pre : List Int) => pre.length) (fun pre => KV pre) (fun _ _ => True)) _) (ownFrom_below (Nat.le_refl _) (by omega)))
    (fun _ _ _ _ _ hs _ _ => hs)
    ⟨⟨_, bO, World.ownsRow_nil _ _ _ _, trivial⟩, hB0⟩
    (fun x a' W => a' = { tmps := #[.pointer (some ⟨bo, 0, none⟩), undef, .slice none 0 0, .pointer (some ⟨w.heap.size, 0, none⟩), .func (.func 87) #[] #[.pointer (some ⟨w.heap.size + 1, 0, none⟩), .pointer (some ⟨w.heap.size + 1 + 1, 0, none⟩)], kv x, .pointer (some ⟨bo, 0, none⟩), .func (.func 87) #[] #[.pointer (some ⟨w.heap.size + 1, 0, none⟩), .pointer (some ⟨w.heap.size + 1 + 1, 0, none⟩)], .func (.func 87) #[] #[.pointer (some ⟨w.heap.size + 1, 0, none⟩), .pointer (some ⟨w.heap.size + 1 + 1, 0, none⟩)], .bool false, .func (.func 87) #[] #[.pointer (some ⟨w.heap.size + 1, 0, none⟩), .pointer (some ⟨w.heap.size + 1 + 1, 0, none⟩)], kv x, undef, undef, undef, undef, undef], defers := [] })
    (fun x a' s X Y row hs hg hrow => hs)
    ?assign ?body ?done ?stop
  case assign =>
    rintro l pre x W K hI hK
    gi_wp2
    exact hK _ _ (KeepsFrom.refl _ _) (kpL_refl _ _) hI rfl
  case body =>
    rintro l pre x a' W hl ⟨r, hr⟩ ⟨⟨v, hv, hrow, _⟩, hB⟩ rfl hlt
    have hc := hv.cell
    have hfz := hv.frozen
    have hle2 : w.heap.size ≤ w.heap.size := Nat.le_refl _
    gi_wp2_with (gi_at_builtin; refine wpListIn_append_own_at _ rfl _ _ TKeys rfl w.heap.size TKey i0 _ 1 8 Try.underlying43 hi hz0 hz1 hz2 rfl (by decide) _ _ _ rfl (hrow.alloc _) ⟨W.heap.size, 0, none⟩ 1 1 [kv x] rfl rfl (news1 _ _) (by simp [Value.oneCell']) (by unfold maxLen; omega) (by omega) (by have := hB.size; simp; omega) ?_; intro v' w1 hown' hgrow hnl hat; have hat2 : ∀ k, v'.ownBlock = some k → v.ownBlock = some k ∨ W.heap.size ≤ k := fun k e => hat.elim (fun h => .inl (h.symm.trans e)) (fun h => .inr (by rw [h] at e; cases e; simp)); clear hnl hat; obtain ⟨g', cap', rfl⟩ := ownsRow_succ hown'; obtain ⟨hv1, hv2, hr2, hk2, hb2⟩ := hv.appended (by decide) hrow hB.size hle2 hown' hgrow; have hc1 := hv1.cell; have hf1 := hv1.frozen)
    refine ⟨hk2.from _, ?_, ⟨⟨_, hv2, ?_, trivial⟩, hB.trans hb2⟩⟩
    · exact kpL_app hv hgrow hv1 hat2
    · rw [List.length_append, KV, List.map_append]
      exact hr2
  case done =>
    rintro D ys W hD rfl ⟨⟨v, hv, hrow, _⟩, hB⟩ hK
    have hc := hv.cell
    gi_wp2
    refine ⟨by simp, .inl ⟨_, _, rfl, run_takeDeferred hK, ?_⟩⟩
    exact ⟨_, results_tmp rfl _ _ _, v, rfl, ownsRow_putObj hrow _ hK rfl, hB.trans (belowK_b (w := w) (Nat.le_refl _) W D _ _ (by omega) hK rfl rfl)⟩
  case stop =>
    rintro D c pre W _ _ h _
    exact h.elim
end Go.Proofs.Ytpchllepboolhaa.I.A
