import Derived.Test.YtncajaihojhkkaaGreatXNI
import Derived.Test.YtncajaihojhkkaaGreatXG
import Derived.Shelf.SlSortCmp.QuietGrown
import Derived.Deep.RegionHeld3
namespace Go.Proofs.YtncajaihojhkkaaGreat.I
open Go.RowKit Go.Sort
set_option linter.unusedVariables false
set_option linter.unusedSimpArgs false
set_option maxRecDepth 100000

theorem below_drew {B : Nat} {w x : World} (h : Below B w x) : Below B w x.drew := ⟨h.os, h.tape, h.output, h.size, h.block⟩
theorem World.heap_drew_size (x : World) : x.drew.heap.size = x.heap.size := rfl
theorem sets_other (W : World) (p q a : Addr) (x y : Value) (h1 : a ≠ p) (h2 : a ≠ q) : ((W.setCell p x).setCell q y).drew.cell? a = W.cell? a := by
  show ((W.setCell p x).setCell q y).cell? a = _
  rw [World.cell?_setCell_other _ _ _ _ h2.symm, World.cell?_setCell_other _ _ _ _ h1.symm]
theorem sets_first (W : World) (p q : Addr) (x y : Value) (h : (W.cell? p).isSome = true) (h2 : p ≠ q) : ((W.setCell p x).setCell q y).drew.cell? p = some x := by
  show ((W.setCell p x).setCell q y).cell? p = _
  rw [World.cell?_setCell_other _ _ _ _ h2.symm]; exact World.cell?_setCell_same' _ _ _ h
theorem sets_second (W : World) (p q : Addr) (x y : Value) (h : (W.cell? q).isSome = true) (h2 : q ≠ p) : ((W.setCell p x).setCell q y).drew.cell? q = some y := by
  show ((W.setCell p x).setCell q y).cell? q = _
  exact World.cell?_setCell_same' _ _ _ (by rw [World.cell?_setCell_other _ _ _ _ h2.symm]; exact h)
/-- two new blocks -/
theorem two_new (W : World) (cs : Array Value) (t : TypeId) (ds : Array Value) (u : TypeId) :
    (∀ j, ((W.alloc (.cells cs t)).alloc (.cells ds u)).drew.cell? ⟨W.heap.size, j, none⟩ = cs[j]?) ∧ (∀ j, ((W.alloc (.cells cs t)).alloc (.cells ds u)).drew.frozen? ⟨W.heap.size, j, none⟩ = false) ∧
    (∀ j, ((W.alloc (.cells cs t)).alloc (.cells ds u)).drew.cell? ⟨W.heap.size + 1, j, none⟩ = ds[j]?) ∧ (∀ j, ((W.alloc (.cells cs t)).alloc (.cells ds u)).drew.frozen? ⟨W.heap.size + 1, j, none⟩ = false) := by
  have e1 : ((W.alloc (.cells cs t)).alloc (.cells ds u)).drew.heap[W.heap.size]? = some (.cells cs t (0, 0)) :=
    (Below.heap_alloc (W.alloc (.cells cs t)) (.cells ds u) W.heap.size (by rw [World.size_alloc]; omega)).trans (heap_alloc_new W _)
  have e2 : ((W.alloc (.cells cs t)).alloc (.cells ds u)).drew.heap[W.heap.size + 1]? = some (.cells ds u (0, 0)) := by
    have := heap_alloc_new (W.alloc (.cells cs t)) (.cells ds u)
    rwa [World.size_alloc] at this
  refine ⟨fun j => ?_, fun j => ?_, fun j => ?_, fun j => ?_⟩
  · unfold World.cell?; simp only [e1]; simp
  · unfold World.frozen?; simp only [e1]; simp
  · unfold World.cell?; simp only [e2]; simp
  · unfold World.frozen?; simp only [e2]; simp
/-- what Replace gives: a row of one's own -/
def RepRes (w : World) (B g N : Nat) (ys : List Value) (e : Ending) (w' : World) : Prop :=
  ∃ ao cap', e = .returned (.slice ao N cap') ∧ w'.ownsRow B TRun 3 (.slice ao N cap') N ys ∧ w.grownBy w' (some g) ∧ (ao = some ⟨g, 0, none⟩ ∨ ∃ g', ao = some ⟨g', 0, none⟩ ∧ w.heap.size ≤ g')

/-- what becomes of the world in a Set: the map's two blocks, and new ones -/
structure KeptM (w w' : World) (bm : Nat) (v v' : Value) : Prop where
  os : w'.os = w.os
  tape : w'.tape = w.tape
  output : w'.output = w.output
  size : w.heap.size ≤ w'.heap.size
  block : ∀ k, k < w.heap.size → k ≠ bm → v.ownBlock ≠ some k → w'.heap[k]? = w.heap[k]?
  fresh : v'.ownBlock = v.ownBlock ∨ ∀ k, v'.ownBlock = some k → w.heap.size ≤ k
theorem KeptM.refl (w : World) (bm : Nat) (v : Value) : KeptM w w bm v v := ⟨rfl, rfl, rfl, Nat.le_refl _, fun _ _ _ _ => rfl, .inl rfl⟩

theorem lay_close {w w' w5 : World} {B bm g n cap N cap' : Nat} {ao : Option Addr} {size : Int} {rs : List (Rn Int)} {ys : List Value} (h : MO w B bm (.slice (some ⟨g, 0, none⟩) n cap) size rs) (hb : Below w.heap.size w w')
    (ho : w5.ownsRow B TRun 3 (.slice ao N cap') N ys) (hg : w'.grownBy w5 (some g)) (hf : ao = some ⟨g, 0, none⟩ ∨ ∃ g', ao = some ⟨g', 0, none⟩ ∧ w'.heap.size ≤ g') :
    ∃ v', (w5.setCell ⟨bm, 2, none⟩ (.slice ao N cap')).heap[bm]? = some (.cells #[.bool true, .int .i64 size, v'] TMap (0, 0)) ∧ (w5.setCell ⟨bm, 2, none⟩ (.slice ao N cap')).ownsRow B TRun 3 v' N ys ∧ KeptM w (w5.setCell ⟨bm, 2, none⟩ (.slice ao N cap')) bm (.slice (some ⟨g, 0, none⟩) n cap) v' := by
  have hne : bm ≠ g := fun e => h.sep g rfl e.symm
  have hlt := h.ltm
  have hsz := hb.size
  have hblk : w5.heap[bm]? = some (.cells #[.bool true, .int .i64 size, .slice (some ⟨g, 0, none⟩) n cap] TMap (0, 0)) :=
    (hg.block bm (by omega) (by simpa using hne)).trans ((hb.block bm hlt).trans h.blk)
  have hao : ∀ k, (Value.slice ao N cap').ownBlock = some k → k ≠ bm := by
    intro k hk
    rcases hf with rfl | ⟨g', rfl, hn⟩
    · simp only [Value.ownBlock, Option.some.injEq] at hk; omega
    · simp only [Value.ownBlock, Option.some.injEq] at hk; omega
  refine ⟨.slice ao N cap', ?_, ?_, ⟨?_, ?_, ?_, ?_, ?_, ?_⟩⟩
  · exact heap_setCell_same w5 bm 2 _ TMap _ hblk
  · exact owns_same ho fun k hk => Below.heap_setCell _ _ _ _ (hao k hk)
  · exact hg.os.trans hb.os
  · exact hg.tape.trans hb.tape
  · exact hg.output.trans hb.output
  · have := hg.size; simp; omega
  · intro k hk hkm hkg
    have e1 : (w5.setCell ⟨bm, 2, none⟩ (.slice ao N cap')).heap[k]? = w5.heap[k]? := Below.heap_setCell _ _ _ _ hkm
    have e2 : w5.heap[k]? = w'.heap[k]? := hg.block k (by omega) (fun e => hkg (by cases e; rfl))
    exact e1.trans (e2.trans (hb.block k hk))
  · rcases hf with rfl | ⟨g', rfl, hn⟩
    · exact .inl rfl
    · exact .inr fun k hk => by simp only [Value.ownBlock, Option.some.injEq] at hk; omega

set_option maxHeartbeats 16000000 in
theorem reg4_walk {c0 c1 c2 c3 c4 : Code} (hc : Tryz.f31.body = some (.seq c0 (.seq c1 (.seq c2 (.seq c3 c4))))) (Post : Ending → World → Prop) {W3 : World} {B bm br bh bt g cap fi la n m N : Nat} {js ys rs : List (Rn Int)} (r hd tl : Rn Int) (t1 t2 t8 t9 t10 t11 t12 t13 t14 t15 t16 t17 t18 t19 t20 t21 t22 t23 t24 t25 t26 t27 t28 t29 t30 t31 t32 t33 t34 t35 t36 t37 t38 t39 t40 t41 t42 t43 t44 t45 t46 t47 t48 t49 t50 t51 t52 t53 t54 t55 t56 t57 t58 t59 : Value)
    (s0 : W3.cell? ⟨bh, 0, none⟩ = some (.int .i64 hd.lo)) (s1 : W3.cell? ⟨bh, 1, none⟩ = some (.int .i64 r.lo)) (s2 : W3.cell? ⟨bh, 2, none⟩ = some (.int .i64 hd.v))
    (u0 : W3.cell? ⟨bt, 0, none⟩ = some (.int .i64 r.hi)) (u1 : W3.cell? ⟨bt, 1, none⟩ = some (.int .i64 tl.hi)) (u2 : W3.cell? ⟨bt, 2, none⟩ = some (.int .i64 tl.v))
    (v0 : W3.cell? ⟨br, 0, none⟩ = some (.int .i64 r.lo)) (v1 : W3.cell? ⟨br, 1, none⟩ = some (.int .i64 r.hi)) (v2 : W3.cell? ⟨br, 2, none⟩ = some (.int .i64 r.v))
    (d2 : W3.cell? ⟨bm, 2, none⟩ = some (.slice (some ⟨g, 0, none⟩) n cap)) (hgbm : ¬ bm = g) (hgl : g < W3.heap.size) (hfz : W3.frozen? ⟨bm, 2, none⟩ = false)
    (Hm : Hid (js.length = m)) (Hjs : Hid (joined [⟨hd.lo, r.lo, hd.v⟩, r, ⟨r.hi, tl.hi, tl.v⟩] = js)) (hm0 : 0 < m) (hla : la ≤ 1099511627776) (hbB : B ≤ W3.heap.size)
    (HO : Hid (W3.ownsRow B TRun 3 (.slice (some ⟨g, 0, none⟩) n cap) n (rcells E rs)))
    (HR : Hid (∀ (W : World) (gv c : Nat), W.ownsRow B TRun 3 (.slice (some ⟨g, 0, none⟩) n cap) n (rcells E rs) → B ≤ W.heap.size → gv ≠ g →
      W.ownsRow B TRun 3 (.slice (some ⟨gv, 0, none⟩) m c) m (rcells E js) →
      Calls Tryz.prog 41 #[.slice (some ⟨g, 0, none⟩) n cap, .int .i64 fi, .int .i64 ((la : Int) + 1), .slice (some ⟨gv, 0, none⟩) m c] W (RepRes W B g N (rcells E ys))))
    (HP : Hid (∀ w' w5 ao cap', Below W3.heap.size W3 w' → w5.ownsRow B TRun 3 (.slice ao N cap') N (rcells E ys) → w'.grownBy w5 (some g) → (ao = some ⟨g, 0, none⟩ ∨ ∃ g', ao = some ⟨g', 0, none⟩ ∧ w'.heap.size ≤ g') → Post (.returned (.tuple #[])) (w5.setCell ⟨bm, 2, none⟩ (.slice ao N cap')))) :
    c4.wp Tryz.prog (bodyPost Tryz.prog Tryz.f31 Post) { tmps := #[.pointer (some ⟨bm, 0, none⟩), t1, t2, .pointer (some ⟨br, 0, none⟩), .int .i64 fi, .int .i64 la, .pointer (some ⟨bh, 0, none⟩), .pointer (some ⟨bt, 0, none⟩), t8, t9, t10, t11, t12, t13, t14, t15, t16, t17, t18, t19, t20, t21, t22, t23, t24, t25, t26, t27, t28, t29, t30, t31, t32, t33, t34, t35, t36, t37, t38, t39, t40, t41, t42, t43, t44, t45, t46, t47, t48, t49, t50, t51, t52, t53, t54, t55, t56, t57, t58, t59], defers := [] } W3 := by
  have z1 := World.new_ne W3 _ d2
  have wl : IntKind.i64.wrap ((la : Int) + 1) = (la : Int) + 1 := by rw [IntKind.wrap_i64]; omega
  have hsz : Hid ((W3.alloc (.cells #[.int .i64 hd.lo, .int .i64 r.lo, .int .i64 hd.v, .int .i64 r.lo, .int .i64 r.hi, .int .i64 r.v, .int .i64 r.hi, .int .i64 tl.hi, .int .i64 tl.v] TRun)).drew.heap.size = W3.heap.size + 1) := World.size_alloc W3 _
  have HJ : Hid (Calls Tryz.prog 29 #[.slice (some ⟨W3.heap.size, 0, none⟩) 3 3] (W3.alloc (.cells #[.int .i64 hd.lo, .int .i64 r.lo, .int .i64 hd.v, .int .i64 r.lo, .int .i64 r.hi, .int .i64 r.v, .int .i64 r.hi, .int .i64 tl.hi, .int .i64 tl.v] TRun)).drew fun e w' => ∃ gv c, e = .returned (.slice (some ⟨gv, 0, none⟩) m c) ∧ W3.heap.size + 1 ≤ gv ∧ w'.ownsRow (W3.heap.size + 1) TRun 3 (.slice (some ⟨gv, 0, none⟩) m c) m (rcells E js) ∧ Below (W3.alloc (.cells #[.int .i64 hd.lo, .int .i64 r.lo, .int .i64 hd.v, .int .i64 r.lo, .int .i64 r.hi, .int .i64 r.v, .int .i64 r.hi, .int .i64 tl.hi, .int .i64 tl.v] TRun)).drew.heap.size (W3.alloc (.cells #[.int .i64 hd.lo, .int .i64 r.lo, .int .i64 hd.v, .int .i64 r.lo, .int .i64 r.hi, .int .i64 r.v, .int .i64 r.hi, .int .i64 tl.hi, .int .i64 tl.v] TRun)).drew w') := by
    have := joined_any W3.heap.size 3 [⟨hd.lo, r.lo, hd.v⟩, r, ⟨r.hi, tl.hi, tl.v⟩] (W3.alloc (.cells #[.int .i64 hd.lo, .int .i64 r.lo, .int .i64 hd.v, .int .i64 r.lo, .int .i64 r.hi, .int .i64 r.v, .int .i64 r.hi, .int .i64 tl.hi, .int .i64 tl.v] TRun)).drew (by simp) (fun j u hu => by
      refine (World.cell?_alloc_mark W3 _ TRun (0, 0) j).trans ?_
      simpa [rcells, rcell] using hu)
    rw [Hjs.out, Hm.out] at this
    refine this.mono ?_
    rintro e w' ⟨vv, rfl, hown, hb⟩
    obtain ⟨gv, c, rfl, hg1, hg2⟩ := owns_some hown hm0
    rw [hsz.out] at hown hg1
    exact ⟨gv, c, rfl, hg1, hown, hb⟩
  have HG : Hid (∀ w', Below (W3.alloc (.cells #[.int .i64 hd.lo, .int .i64 r.lo, .int .i64 hd.v, .int .i64 r.lo, .int .i64 r.hi, .int .i64 r.v, .int .i64 r.hi, .int .i64 tl.hi, .int .i64 tl.v] TRun)).drew.heap.size (W3.alloc (.cells #[.int .i64 hd.lo, .int .i64 r.lo, .int .i64 hd.v, .int .i64 r.lo, .int .i64 r.hi, .int .i64 r.v, .int .i64 r.hi, .int .i64 tl.hi, .int .i64 tl.v] TRun)).drew w' → Below W3.heap.size W3 w') := fun w' hb => (below_drew ((Below.refl _ W3).alloc (Nat.le_refl _) _)).trans (hb.mono (by have := hsz.out; omega))
  have HG1 : Hid (∀ w', Below (W3.alloc (.cells #[.int .i64 hd.lo, .int .i64 r.lo, .int .i64 hd.v, .int .i64 r.lo, .int .i64 r.hi, .int .i64 r.v, .int .i64 r.hi, .int .i64 tl.hi, .int .i64 tl.v] TRun)).drew.heap.size (W3.alloc (.cells #[.int .i64 hd.lo, .int .i64 r.lo, .int .i64 hd.v, .int .i64 r.lo, .int .i64 r.hi, .int .i64 r.v, .int .i64 r.hi, .int .i64 tl.hi, .int .i64 tl.v] TRun)).drew w' → w'.ownsRow B TRun 3 (.slice (some ⟨g, 0, none⟩) n cap) n (rcells E rs) ∧ B ≤ w'.heap.size) := fun w' hb => by
    have hb' := HG.out w' hb
    refine ⟨owns_same HO.out fun k hk => hb'.block k ?_, Nat.le_trans hbB hb'.size⟩
    simp only [Value.ownBlock, Option.some.injEq] at hk; omega
  have HC2 : Hid (∀ w', Below (W3.alloc (.cells #[.int .i64 hd.lo, .int .i64 r.lo, .int .i64 hd.v, .int .i64 r.lo, .int .i64 r.hi, .int .i64 r.v, .int .i64 r.hi, .int .i64 tl.hi, .int .i64 tl.v] TRun)).drew.heap.size (W3.alloc (.cells #[.int .i64 hd.lo, .int .i64 r.lo, .int .i64 hd.v, .int .i64 r.lo, .int .i64 r.hi, .int .i64 r.v, .int .i64 r.hi, .int .i64 tl.hi, .int .i64 tl.v] TRun)).drew w' → w'.cell? ⟨bm, 2, none⟩ = some (.slice (some ⟨g, 0, none⟩) n cap)) := fun w' hb => cell_later (HG.out w' hb) d2
  have HZ : Hid (∀ w' w5, Below (W3.alloc (.cells #[.int .i64 hd.lo, .int .i64 r.lo, .int .i64 hd.v, .int .i64 r.lo, .int .i64 r.hi, .int .i64 r.v, .int .i64 r.hi, .int .i64 tl.hi, .int .i64 tl.v] TRun)).drew.heap.size (W3.alloc (.cells #[.int .i64 hd.lo, .int .i64 r.lo, .int .i64 hd.v, .int .i64 r.lo, .int .i64 r.hi, .int .i64 r.v, .int .i64 r.hi, .int .i64 tl.hi, .int .i64 tl.v] TRun)).drew w' → w'.grownBy w5 (some g) → w5.frozen? ⟨bm, 2, none⟩ = false) := fun w' w5 hb hg => by
    have hb' := HG.out w' hb
    have hlt := World.block_lt_of_cell? _ _ d2
    have e1 : w'.heap[bm]? = W3.heap[bm]? := hb'.block _ hlt
    have e2 : w5.heap[bm]? = w'.heap[bm]? := hg.block bm (Nat.lt_of_lt_of_le hlt hb'.size) (by simpa using hgbm)
    exact (World.frozen?_of_block (a := ⟨bm, 2, none⟩) (e2.trans e1)).trans hfz
  have d5 : (W3.alloc (.cells #[.int .i64 hd.lo, .int .i64 r.lo, .int .i64 hd.v, .int .i64 r.lo, .int .i64 r.hi, .int .i64 r.v, .int .i64 r.hi, .int .i64 tl.hi, .int .i64 tl.v] TRun)).cell? ⟨bm, 2, none⟩ = some (.slice (some ⟨g, 0, none⟩) n cap) := cell_later ((Below.refl _ W3).alloc (Nat.le_refl _) _) d2
  clear Hm Hjs HO hfz hsz
  simp only [Tryz.f31, Option.some.injEq, Code.seq.injEq] at hc
  obtain ⟨_, _, _, _, rfl⟩ := hc
  go_region_with (first | (go_at_call 29; refine HJ.out.mono ?_; rintro e w' ⟨gv, c, rfl, hgv, hown, hb4⟩; have c2w := HC2.out _ hb4) | (go_at_call 41; refine (HR.out _ gv c (HG1.out _ hb4).1 (HG1.out _ hb4).2 (by omega) (owns_mono hown (by omega))).mono ?_; rintro e w5 ⟨ao, cap', rfl, hown5, hg5, hf5⟩; have hfz5 := HZ.out _ _ hb4 hg5; have hc5 := hg5.cell c2w (by simpa using hgbm)) | fail)
  all_goals go_wp2
  all_goals go_end0
  all_goals exact HP.out _ _ _ _ (HG.out _ hb4) hown5 hg5 hf5
end Go.Proofs.YtncajaihojhkkaaGreat.I
