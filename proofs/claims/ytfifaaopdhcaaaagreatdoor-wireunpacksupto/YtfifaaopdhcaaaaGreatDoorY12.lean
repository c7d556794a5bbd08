import Derived.Test.YtfifaaopdhcaaaaGreatDoorY11
import Derived.WalkMore
import Derived.ScopeJumps
namespace Go.Proofs.YtfifaaopdhcaaaaGreatDoor
open Go.RowKit
set_option linter.unusedVariables false
set_option linter.unusedSimpArgs false
set_option maxRecDepth 100000

theorem jump_ret {l : Nat} {J : Act → World → Prop} {Q : Exit → Act → World → Prop} {a : Act} {w : World} : Exit.jump l J Q .ret a w = Q .ret a w := rfl
/-- results in a box and in two slots -/
theorem results_cell_tmp2 {P : Program} {fn : Func} {p u v : Tmp} {ty : TypeId} (h : fn.results = #[.cell p ty, .tmp u, .tmp v]) (tmps : Array Value) (w : World) (g : Nat) (t : TypeId) (cs : Array Value) (fr : Nat × Nat) (d : TypeDesc)
    (hp : tmps.getD p undef = .pointer (some ⟨g, 0, none⟩)) (hg : w.heap[g]? = some (.cells cs t fr))
    (hu : P.underlying ty = some d) (hd : (match d with | .struct _ | .array _ _ => true | _ => false) = true) (hi : (P.info? ty).map (·.size) = some cs.size) :
    (results fn tmps).run P w = .ok (.tuple #[.agg cs, tmps.getD u undef, tmps.getD v undef]) w := by
  have hp' : tmps[p]?.getD undef = .pointer (some ⟨g, 0, none⟩) := by simpa using hp
  simp [results, h, hp', asAddr, Sem.run_bind, Result.andThen, run_loadVar_row w g t ty cs fr d hg hu hd hi]
/-- no bytes -/
abbrev nilV : Value := .slice none 0 0
theorem row_nil (w w' : World) (h : Below w.heap.size w w') : Row w w' none 0 [] := ⟨World.ownsRow_nil _ _ _ _, by simp, h⟩
/-- boxes -/
abbrev bx2 (w : World) (t : TypeId) (x y : Array Value) : List (Nat × Obj) := [(w.heap.size, .cells x t (0, 0)), (w.heap.size + 1, .cells y t (0, 0))]
abbrev bx3 (w : World) (t : TypeId) (x y z : Array Value) : List (Nat × Obj) := [(w.heap.size, .cells x t (0, 0)), (w.heap.size + 1, .cells y t (0, 0)), (w.heap.size + 1 + 1, .cells z t (0, 0))]
theorem bx2_new (w : World) (t : TypeId) (x y : Array Value) : ∀ e ∈ bx2 w t x y, ((w.alloc (.cells x t)).alloc (.cells y t)).heap[e.1]? = some e.2 ∧ w.heap.size ≤ e.1 ∧ e.1 < ((w.alloc (.cells x t)).alloc (.cells y t)).heap.size := by
  intro e he
  have h1 := heap_alloc_new (w.alloc (.cells x t)) (.cells y t)
  rw [World.size_alloc] at h1
  simp only [List.mem_cons, List.not_mem_nil, or_false] at he
  rcases he with rfl | rfl
  · exact ⟨(Below.heap_alloc _ _ _ (by simp)).trans (heap_alloc_new w _), Nat.le_refl _, by simp only [World.size_alloc]; omega⟩
  · exact ⟨h1, by simp, by simp⟩
theorem bx3_new (w : World) (t : TypeId) (x y z : Array Value) : ∀ e ∈ bx3 w t x y z, (((w.alloc (.cells x t)).alloc (.cells y t)).alloc (.cells z t)).heap[e.1]? = some e.2 ∧ w.heap.size ≤ e.1 ∧ e.1 < (((w.alloc (.cells x t)).alloc (.cells y t)).alloc (.cells z t)).heap.size := by
  intro e he
  have h1 := heap_alloc_new (w.alloc (.cells x t)) (.cells y t)
  have h2 := heap_alloc_new ((w.alloc (.cells x t)).alloc (.cells y t)) (.cells z t)
  rw [World.size_alloc] at h1
  rw [World.size_alloc, World.size_alloc] at h2
  simp only [List.mem_cons, List.not_mem_nil, or_false] at he
  rcases he with rfl | rfl | rfl
  · exact ⟨(Below.heap_alloc _ _ _ (by simp only [World.size_alloc]; omega)).trans ((Below.heap_alloc _ _ _ (by simp)).trans (heap_alloc_new w _)), Nat.le_refl _, by simp only [World.size_alloc]; omega⟩
  · exact ⟨(Below.heap_alloc _ _ _ (by simp)).trans h1, by simp, by simp⟩
  · exact ⟨h2, by simp; omega, by simp⟩
theorem bx2_nd (w : World) (t : TypeId) (x y : Array Value) : ((bx2 w t x y).map (·.1)).Nodup := by simp
theorem bx3_nd (w : World) (t : TypeId) (x y z : Array Value) : ((bx3 w t x y z).map (·.1)).Nodup := by simp; omega
theorem bx2_bel (w : World) (a b : Obj) : Below w.heap.size w ((w.alloc a).alloc b) := ((Below.refl _ w).alloc (Nat.le_refl _) _).alloc (by simp) _
theorem bx3_bel (w : World) (a b c : Obj) : Below w.heap.size w (((w.alloc a).alloc b).alloc c) := (bx2_bel w a b).alloc (by simp; omega) _
/-- where a decoder ends -/
structure Lb (w W : World) (bs : List (Nat × Obj)) (r : Nat) (n er : Int) : Prop where
  bel : Below w.heap.size w W
  box : ∀ x ∈ bs, W.heap[x.1]? = some x.2 ∧ w.heap.size ≤ x.1 ∧ x.1 ≠ r
  cn : W.cell? ⟨r, 3, none⟩ = some (.int .i64 n)
  ce : W.cell? ⟨r, 4, none⟩ = some (.int .i64 er)
theorem Dec.lb {w W : World} {bs : List (Nat × Obj)} {c r h : Nat} {ao : Option Addr} {cap : Nat} {hl : List Nat} {at_ : Nat} {bh : Value} {ln n er : Int} (H : Dec w W bs c r h ao cap hl at_ bh ln n er) : Lb w W bs r n er :=
  ⟨H.bel, fun x hx => ⟨(H.box x hx).1, (H.box x hx).2.1, by have := (H.box x hx).2.2; have := H.hr; omega⟩, by rw [H.c]; rfl, by rw [H.c]; rfl⟩
abbrev nhO (size : Nat) : Obj := .cells #[.pointer none, .slice none 0 0, .int .i64 0, .int .i64 (size : Int), .int .i64 10] TRg (0, 0)
theorem lb_short {w W0 : World} {bs : List (Nat × Obj)} (hb : Below w.heap.size w W0) (hbx : ∀ x ∈ bs, W0.heap[x.1]? = some x.2 ∧ w.heap.size ≤ x.1 ∧ x.1 < W0.heap.size) (size : Nat) : Lb w (W0.alloc (nhO size)) bs W0.heap.size size 10 := by
  have hN : Nh (W0.alloc (nhO size)) W0.heap.size size := ⟨heap_new W0 _⟩
  refine ⟨hb.alloc hb.size _, fun x hx => ?_, by rw [hN.c]; rfl, by rw [hN.c]; rfl⟩
  obtain ⟨h1, h2, h3⟩ := hbx x hx
  exact ⟨(Below.heap_alloc _ _ _ h3).trans h1, h2, by omega⟩
theorem Lb.b {w W : World} {bs : List (Nat × Obj)} {r : Nat} {n er : Int} (H : Lb w W bs r n er) {b : Nat} {cs : Array Value} {t : TypeId} (hb : (b, Obj.cells cs t (0, 0)) ∈ bs) (j : Nat) : W.cell? ⟨b, j, none⟩ = cs[j]? ∧ W.frozen? ⟨b, j, none⟩ = false :=
  ⟨blk_at (H.box _ hb).1 j, blk_free (H.box _ hb).1 j⟩
theorem put_box {W : World} {b : Nat} {cs : Array Value} {t : TypeId} (h : W.heap[b]? = some (.cells cs t (0, 0))) (j : Nat) (v : Value) {cs' : Array Value} (hcs : cs.setIfInBounds j v = cs') : (W.setCell ⟨b, j, none⟩ v).heap[b]? = some (.cells cs' t (0, 0)) := by
  rw [heap_setCell_same W b j cs t v h, hcs]
/-- stores, one behind the other -/
def setAll (W : World) : List (Nat × Nat × Value) → World
  | [] => W
  | x :: l => setAll (W.setCell ⟨x.1, x.2.1, none⟩ x.2.2) l
theorem setAll_owns {B e n : Nat} {v : Value} {xs : List Value} : ∀ (l : List (Nat × Nat × Value)) (W : World), W.ownsRow B e 1 v n xs → (∀ x ∈ l, x.1 < B) → (setAll W l).ownsRow B e 1 v n xs
  | [], _, h, _ => h
  | x :: l, W, h, hl => setAll_owns l _ (owns_same h fun g hg => Below.heap_setCell _ _ _ _ (by have := (owns_lt h g hg).2; have := hl x (.head _); show g ≠ x.1; omega)) (fun y hy => hl y (.tail _ hy))
theorem setAll_below {w : World} : ∀ (l : List (Nat × Nat × Value)) (W : World), Below w.heap.size w W → (∀ x ∈ l, w.heap.size ≤ x.1) → Below w.heap.size w (setAll W l)
  | [], _, h, _ => h
  | x :: l, W, h, hl => setAll_below l _ (below_set h (hl x (.head _))) (fun y hy => hl y (.tail _ hy))
theorem below_drew {w W : World} {B : Nat} (h : Below B w W) : Below B w W.drew := ⟨h.os, h.tape, h.output, h.size, h.block⟩
theorem tk (l : List Nat) (s a k : Nat) (h : a + k ≤ s) : ((l.take s).drop a).take k = (l.drop a).take k := by
  rw [List.drop_take, List.take_take, Nat.min_eq_left (by omega)]
/-- the bytes behind a head, in memory -/
theorem tail_news {w W : World} {b off cap : Nat} {l : List Nat} {a2 : Addr} {size len : Nat} (h : CRow w (some ⟨b, off, none⟩) cap l) (hb : Below w.heap.size w W) (ha : l.length - size ≠ 0 → a2 = ⟨b, off + size, none⟩) :
    ∀ j u, (((l.drop size).take len).map bv)[j]? = some u → W.cell? (a2.add j) = some u := by
  intro j u hu
  have hj : j < l.length - size := by
    have := (List.getElem?_eq_some_iff.1 hu).1
    rw [List.length_map, List.length_take, List.length_drop] at this; omega
  rw [ha (by omega), add_plain]
  obtain ⟨b', off', e, hc⟩ := h.row.at_ (by rintro rfl; simp at hj)
  cases e
  have h2 := cell_later hb (hc (size + j) (by omega))
  rw [show off + size + j = off + (size + j) by omega, h2, ← hu, List.getElem?_map, List.getElem?_take]
  have : j < len := by
    have := (List.getElem?_eq_some_iff.1 hu).1
    rw [List.length_map, List.length_take] at this; omega
  rw [if_pos this, List.getElem?_drop, List.getElem?_eq_getElem (by omega)]; rfl
theorem CRow.some {w : World} {ao : Option Addr} {cap : Nat} {l : List Nat} (h : CRow w ao cap l) (hl : 0 < l.length) : ∃ b off, ao = some ⟨b, off, none⟩ := by
  obtain ⟨b, off, e, _⟩ := h.row.at_ (by rintro rfl; simp at hl)
  exact ⟨b, off, e⟩
theorem infoOpt : (Tryz.prog.info? 125).map (·.size) = some 4 := by kernel_rfl
theorem infoGre : (Tryz.prog.info? 130).map (·.size) = some 1 := by kernel_rfl
theorem Dec.putS {w W : World} {t : TypeId} {x y z : Array Value} {c r h : Nat} {ao : Option Addr} {cap : Nat} {hl : List Nat} {at_ : Nat} {bh : Value} {ln n er : Int} (H : Dec w W (bx3 w t x y z) c r h ao cap hl at_ bh ln n er) (j : Nat) (v : Value) (v' : Array Value) (hv : z.setIfInBounds j v = v') : Dec w (W.setCell ⟨w.heap.size + 1 + 1, j, none⟩ v) (bx3 w t x y v') c r h ao cap hl at_ bh ln n er := H.put [_, _] [] _ z t rfl j v hv
theorem Dec.putO {w W : World} {t : TypeId} {x y z : Array Value} {c r h : Nat} {ao : Option Addr} {cap : Nat} {hl : List Nat} {at_ : Nat} {bh : Value} {ln n er : Int} (H : Dec w W (bx3 w t x y z) c r h ao cap hl at_ bh ln n er) (j : Nat) (v : Value) (v' : Array Value) (hv : y.setIfInBounds j v = v') : Dec w (W.setCell ⟨w.heap.size + 1, j, none⟩ v) (bx3 w t x v' z) c r h ao cap hl at_ bh ln n er := H.put [_] [_] _ y t rfl j v hv
theorem Dec.putR {w W : World} {t : TypeId} {x y z : Array Value} {c r h : Nat} {ao : Option Addr} {cap : Nat} {hl : List Nat} {at_ : Nat} {bh : Value} {ln n er : Int} (H : Dec w W (bx3 w t x y z) c r h ao cap hl at_ bh ln n er) (j : Nat) (v : Value) (v' : Array Value) (hv : x.setIfInBounds j v = v') : Dec w (W.setCell ⟨w.heap.size, j, none⟩ v) (bx3 w t v' y z) c r h ao cap hl at_ bh ln n er := H.put [] [_, _] _ x t rfl j v hv
theorem Dec.putO2 {w W : World} {t : TypeId} {x y : Array Value} {c r h : Nat} {ao : Option Addr} {cap : Nat} {hl : List Nat} {at_ : Nat} {bh : Value} {ln n er : Int} (H : Dec w W (bx2 w t x y) c r h ao cap hl at_ bh ln n er) (j : Nat) (v : Value) (v' : Array Value) (hv : y.setIfInBounds j v = v') : Dec w (W.setCell ⟨w.heap.size + 1, j, none⟩ v) (bx2 w t x v') c r h ao cap hl at_ bh ln n er := H.put [_] [] _ y t rfl j v hv
theorem Dec.putR2 {w W : World} {t : TypeId} {x y : Array Value} {c r h : Nat} {ao : Option Addr} {cap : Nat} {hl : List Nat} {at_ : Nat} {bh : Value} {ln n er : Int} (H : Dec w W (bx2 w t x y) c r h ao cap hl at_ bh ln n er) (j : Nat) (v : Value) (v' : Array Value) (hv : x.setIfInBounds j v = v') : Dec w (W.setCell ⟨w.heap.size, j, none⟩ v) (bx2 w t v' y) c r h ao cap hl at_ bh ln n er := H.put [] [_] _ x t rfl j v hv
theorem rx_u32 {w W : World} {bs : List (Nat × Obj)} {c r h : Nat} {ao : Option Addr} {cap : Nat} {l : List Nat} {s at_ : Nat} {bh : Value} {ln n er : Int} (H : Dec w W bs c r h ao cap (l.take s) at_ bh ln n er) (x : Nat) (hx : valB ((l.drop at_).take 4) = x) (h1 : at_ + 4 ≤ s) (h2 : s ≤ l.length) :
    Calls Tryz.prog 85 #[.pointer (some ⟨r, 0, none⟩)] W fun e W' => e = .returned (.int .u32 (x : Int)) ∧ Dec w W' bs c r h ao cap (l.take s) (at_ + 4) bh ln n er := by
  have := rd_u32 H (by rw [List.length_take]; omega)
  rw [tk _ _ _ _ h1, hx] at this
  exact this
theorem rx_u64 {w W : World} {bs : List (Nat × Obj)} {c r h : Nat} {ao : Option Addr} {cap : Nat} {l : List Nat} {s at_ : Nat} {bh : Value} {ln n er : Int} (H : Dec w W bs c r h ao cap (l.take s) at_ bh ln n er) (x : Nat) (hx : valB ((l.drop at_).take 8) = x) (h1 : at_ + 8 ≤ s) (h2 : s ≤ l.length) :
    Calls Tryz.prog 84 #[.pointer (some ⟨r, 0, none⟩)] W fun e W' => e = .returned (.int .u64 (x : Int)) ∧ Dec w W' bs c r h ao cap (l.take s) (at_ + 8) bh ln n er := by
  have := rd_u64 H (by rw [List.length_take]; omega)
  rw [tk _ _ _ _ h1, hx] at this
  exact this
end Go.Proofs.YtfifaaopdhcaaaaGreatDoor

namespace Go.Proofs.YtfifaaopdhcaaaaGreatDoor
open Go.RowKit
set_option linter.unusedVariables false
set_option linter.unusedSimpArgs false
set_option maxRecDepth 100000
theorem below1 (w : World) (o : Obj) : Below w.heap.size w (w.alloc o) := (Below.refl _ _).alloc (Nat.le_refl _) o
theorem below2 (w : World) (o o' : Obj) : Below w.heap.size w ((w.alloc o).alloc o') := ((Below.refl _ w).alloc (Nat.le_refl _) o).alloc (by simp) o'
theorem box_later {W W' : World} {b t : Nat} {A : Array Value} (h : W.heap[b]? = some (.cells A t (0, 0))) (k : Below W.heap.size W W') : W'.heap[b]? = some (.cells A t (0, 0)) := by rw [k.block _ (block_lt h)]; exact h
/-- boxes that a call makes of what it is handed, at a letter behind them -/
structure Bx1 (w W : World) (A : Array Value) (tA : TypeId) : Prop where
  bel : Below w.heap.size w W
  a : W.heap[w.heap.size]? = some (.cells A tA (0, 0))
  size : w.heap.size + 1 ≤ W.heap.size
structure Bx2 (w W : World) (A B : Array Value) (tA tB : TypeId) : Prop where
  bel : Below w.heap.size w W
  a : W.heap[w.heap.size]? = some (.cells A tA (0, 0))
  b : W.heap[w.heap.size + 1]? = some (.cells B tB (0, 0))
  size : w.heap.size + 2 ≤ W.heap.size
structure Bx3 (w W : World) (A B C : Array Value) (tA tB tC : TypeId) : Prop where
  bel : Below w.heap.size w W
  a : W.heap[w.heap.size]? = some (.cells A tA (0, 0))
  b : W.heap[w.heap.size + 1]? = some (.cells B tB (0, 0))
  c : W.heap[w.heap.size + 1 + 1]? = some (.cells C tC (0, 0))
  size : w.heap.size + 3 ≤ W.heap.size
theorem size1 (w : World) (o : Obj) : (w.alloc o).heap.size = w.heap.size + 1 := by simp
theorem mkb1 (w : World) (A : Array Value) (tA : TypeId) : Bx1 w (w.alloc (.cells A tA)) A tA := ⟨below1 w _, heap_new w _, by rw [size1]; omega⟩
theorem mkb2 (w : World) (A B : Array Value) (tA tB : TypeId) : Bx2 w ((w.alloc (.cells A tA)).alloc (.cells B tB)) A B tA tB := by
  have h := mkb1 w A tA
  have k := below1 (w.alloc (.cells A tA)) (.cells B tB)
  refine ⟨h.bel.trans (k.mono (by rw [size1]; omega)), by rw [k.block _ (by rw [size1]; omega)]; exact h.a, ?_, by rw [size1, size1]; omega⟩
  have := heap_new (w.alloc (.cells A tA)) (.cells B tB)
  rwa [size1] at this
theorem mkb3 (w : World) (A B C : Array Value) (tA tB tC : TypeId) : Bx3 w (((w.alloc (.cells A tA)).alloc (.cells B tB)).alloc (.cells C tC)) A B C tA tB tC := by
  have h := mkb2 w A B tA tB
  have k := below1 ((w.alloc (.cells A tA)).alloc (.cells B tB)) (.cells C tC)
  refine ⟨h.bel.trans (k.mono (by rw [size1, size1]; omega)), by rw [k.block _ (by rw [size1, size1]; omega)]; exact h.a, by rw [k.block _ (by rw [size1, size1]; omega)]; exact h.b, ?_, by rw [size1, size1, size1]; omega⟩
  have := heap_new ((w.alloc (.cells A tA)).alloc (.cells B tB)) (.cells C tC)
  rwa [size1, size1] at this
theorem Bx1.later {w W W' : World} {A : Array Value} {tA : TypeId} (h : Bx1 w W A tA) (k : Below W.heap.size W W') : Bx1 w W' A tA :=
  ⟨h.bel.trans (k.mono h.bel.size), by rw [k.block _ (by have := h.size; omega)]; exact h.a, Nat.le_trans h.size k.size⟩
theorem Bx2.later {w W W' : World} {A B : Array Value} {tA tB : TypeId} (h : Bx2 w W A B tA tB) (k : Below W.heap.size W W') : Bx2 w W' A B tA tB :=
  ⟨h.bel.trans (k.mono h.bel.size), by rw [k.block _ (by have := h.size; omega)]; exact h.a, by rw [k.block _ (by have := h.size; omega)]; exact h.b, Nat.le_trans h.size k.size⟩
theorem Bx3.later {w W W' : World} {A B C : Array Value} {tA tB tC : TypeId} (h : Bx3 w W A B C tA tB tC) (k : Below W.heap.size W W') : Bx3 w W' A B C tA tB tC :=
  ⟨h.bel.trans (k.mono h.bel.size), by rw [k.block _ (by have := h.size; omega)]; exact h.a, by rw [k.block _ (by have := h.size; omega)]; exact h.b, by rw [k.block _ (by have := h.size; omega)]; exact h.c, Nat.le_trans h.size k.size⟩
theorem below_drewN (w : World) (q : Nat) : Below w.heap.size w (w.drewN q) := ⟨rfl, rfl, rfl, Nat.le_refl _, fun _ _ => rfl⟩
theorem Bx3.drewN {w W : World} {A B C : Array Value} {tA tB tC : TypeId} (h : Bx3 w W A B C tA tB tC) (q : Nat) : Bx3 w (W.drewN q) A B C tA tB tC := h.later (below_drewN W q)
theorem results_cell_one {P : Program} {fn : Func} {p : Tmp} {ty : TypeId} (h : fn.results = #[.cell p ty]) (tmps : Array Value) (w : World) (g : Nat) (t : TypeId) (cs : Array Value) (fr : Nat × Nat) (d : TypeDesc)
    (hp : tmps.getD p undef = .pointer (some ⟨g, 0, none⟩)) (hg : w.heap[g]? = some (.cells cs t fr))
    (hu : P.underlying ty = some d) (hd : (match d with | .struct _ | .array _ _ => true | _ => false) = true) (hi : (P.info? ty).map (·.size) = some cs.size) :
    (results fn tmps).run P w = .ok (.agg cs) w := by
  have hp' : tmps[p]?.getD undef = .pointer (some ⟨g, 0, none⟩) := by simpa using hp
  simp [results, h, hp', asAddr, Sem.run_bind, Result.andThen, run_loadVar_row w g t ty cs fr d hg hu hd hi]
theorem keptIn_set (W : World) (g j : Nat) (v : Value) : KeptIn (fun k => k = g) W (W.setCell ⟨g, j, none⟩ v) := ⟨rfl, rfl, rfl, Nat.le_of_eq (by simp), fun k _ hn => Below.heap_setCell _ _ _ _ hn⟩
theorem put_boxX {W : World} {b : Nat} {cs : Array Value} {t : TypeId} (h : W.heap[b]? = some (.cells cs t (0, 0))) (j : Nat) (v : Value) {cs' : Array Value} (hcs : cs.setIfInBounds j v = cs') : (W.setCell ⟨b, j, none⟩ v).heap[b]? = some (.cells cs' t (0, 0)) := by
  rw [heap_setCell_same W b j cs t v h, hcs]
theorem put5 {W : World} {g : Nat} {t : TypeId} {a0 a1 a2 a3 a4 : Value} (h : W.heap[g]? = some (.cells #[a0, a1, a2, a3, a4] t (0, 0))) (v0 v1 v2 v3 v4 : Value) :
    ((((((W.setCell ⟨g, 0, none⟩ v0).setCell ⟨g, 1, none⟩ v1).setCell ⟨g, 2, none⟩ v2).setCell ⟨g, 3, none⟩ v3).setCell ⟨g, 4, none⟩ v4)).heap[g]? = some (.cells #[v0, v1, v2, v3, v4] t (0, 0)) ∧ KeptIn (fun k => k = g) W ((((((W.setCell ⟨g, 0, none⟩ v0).setCell ⟨g, 1, none⟩ v1).setCell ⟨g, 2, none⟩ v2).setCell ⟨g, 3, none⟩ v3).setCell ⟨g, 4, none⟩ v4)) := by
  have h1 : ((W.setCell ⟨g, 0, none⟩ v0)).heap[g]? = some (.cells #[v0, a1, a2, a3, a4] t (0, 0)) := put_boxX h 0 v0 (by simp)
  have h2 : (((W.setCell ⟨g, 0, none⟩ v0).setCell ⟨g, 1, none⟩ v1)).heap[g]? = some (.cells #[v0, v1, a2, a3, a4] t (0, 0)) := put_boxX h1 1 v1 (by simp)
  have h3 : ((((W.setCell ⟨g, 0, none⟩ v0).setCell ⟨g, 1, none⟩ v1).setCell ⟨g, 2, none⟩ v2)).heap[g]? = some (.cells #[v0, v1, v2, a3, a4] t (0, 0)) := put_boxX h2 2 v2 (by simp)
  have h4 : (((((W.setCell ⟨g, 0, none⟩ v0).setCell ⟨g, 1, none⟩ v1).setCell ⟨g, 2, none⟩ v2).setCell ⟨g, 3, none⟩ v3)).heap[g]? = some (.cells #[v0, v1, v2, v3, a4] t (0, 0)) := put_boxX h3 3 v3 (by simp)
  have h5 : ((((((W.setCell ⟨g, 0, none⟩ v0).setCell ⟨g, 1, none⟩ v1).setCell ⟨g, 2, none⟩ v2).setCell ⟨g, 3, none⟩ v3).setCell ⟨g, 4, none⟩ v4)).heap[g]? = some (.cells #[v0, v1, v2, v3, v4] t (0, 0)) := put_boxX h4 4 v4 (by simp)
  exact ⟨h5, ((((keptIn_set _ _ _ _).trans (keptIn_set _ _ _ _) (fun _ _ hn => hn)).trans (keptIn_set _ _ _ _) (fun _ _ hn => hn)).trans (keptIn_set _ _ _ _) (fun _ _ hn => hn)).trans (keptIn_set _ _ _ _) (fun _ _ hn => hn)⟩
theorem results_cell_tmp1 {P : Program} {fn : Func} {p u : Tmp} {ty : TypeId} (h : fn.results = #[.cell p ty, .tmp u]) (tmps : Array Value) (w : World) (g : Nat) (t : TypeId) (cs : Array Value) (fr : Nat × Nat) (d : TypeDesc)
    (hp : tmps.getD p undef = .pointer (some ⟨g, 0, none⟩)) (hg : w.heap[g]? = some (.cells cs t fr))
    (hu : P.underlying ty = some d) (hd : (match d with | .struct _ | .array _ _ => true | _ => false) = true) (hi : (P.info? ty).map (·.size) = some cs.size) :
    (results fn tmps).run P w = .ok (.tuple #[.agg cs, tmps.getD u undef]) w := by
  have hp' : tmps[p]?.getD undef = .pointer (some ⟨g, 0, none⟩) := by simpa using hp
  simp [results, h, hp', asAddr, Sem.run_bind, Result.andThen, run_loadVar_row w g t ty cs fr d hg hu hd hi]
theorem put2 {W : World} {g : Nat} {t : TypeId} {a0 a1 : Value} (h : W.heap[g]? = some (.cells #[a0, a1] t (0, 0))) (v0 v1 : Value) :
    ((W.setCell ⟨g, 0, none⟩ v0).setCell ⟨g, 1, none⟩ v1).heap[g]? = some (.cells #[v0, v1] t (0, 0)) ∧ KeptIn (fun k => k = g) W ((W.setCell ⟨g, 0, none⟩ v0).setCell ⟨g, 1, none⟩ v1) :=
  ⟨put_boxX (put_boxX h 0 v0 (cs' := #[v0, a1]) (by simp)) 1 v1 (by simp), (keptIn_set _ _ _ _).trans (keptIn_set _ _ _ _) (fun _ _ hn => hn)⟩
end Go.Proofs.YtfifaaopdhcaaaaGreatDoor
