import Derived.Test.YtjikibhhhchgeaaDoorJT
namespace Go.Proofs.YtjikibhhhchgeaaDoor
open Go.RowKit Go.Maps Go.Shelf
attribute [local go_sem] Oper.semAt_some
set_option linter.unusedVariables false
set_option linter.unusedSimpArgs false
set_option maxRecDepth 100000

theorem results_cell1 {fn : Func} {p : Tmp} {tp : TypeId} (h : fn.results = #[.cell p tp]) (tmps : Array Value) (P : Program) (w : World) :
    (results fn tmps).run P w = ((asAddr (tmps.getD p undef)).run P w).andThen fun a w₁ => (loadVar tp a).run P w₁ := by
  simp only [results, h]
  simp [Sem.run_bind, Result.andThen]
theorem results_cell2 {fn : Func} {p q : Tmp} {tp tq : TypeId} (h : fn.results = #[.cell p tp, .cell q tq]) (tmps : Array Value) (P : Program) (w : World) :
    (results fn tmps).run P w = ((asAddr (tmps.getD p undef)).run P w).andThen fun a w₁ => ((loadVar tp a).run P w₁).andThen fun v w₂ => ((asAddr (tmps.getD q undef)).run P w₂).andThen fun b w₃ => ((loadVar tq b).run P w₃).andThen fun u w₄ => .ok (.tuple #[v, u]) w₄ := by
  simp only [results, h]
  simp [Sem.run_bind, Result.andThen]
theorem load_str {w : World} {a : Addr} {x : ByteArray} (h : w.cell? a = some (.string x)) : (loadVar 9 a).run Tryd.prog w = .ok (.string x) w := by
  simp [loadVar, go_sem, h]
theorem load_u32 {w : World} {a : Addr} {x : Int} (h : w.cell? a = some (.int .u32 x)) : (loadVar 24 a).run Tryd.prog w = .ok (.int .u32 x) w := by
  simp [loadVar, go_sem, h]
theorem load_bool {w : World} {a : Addr} {x : Bool} (h : w.cell? a = some (.bool x)) : (loadVar 4 a).run Tryd.prog w = .ok (.bool x) w := by
  simp [loadVar, go_sem, h]
theorem bytes_ne {p q : ByteArray} (h : p ≠ q) : (p.toList == q.toList) = false := by
  cases hb : (p.toList == q.toList)
  · rfl
  · exfalso
    apply h
    have e : p.data.toList = q.data.toList := by rw [← ByteArray.toList_eq, ← ByteArray.toList_eq]; simpa using hb
    cases p; cases q
    simp only at e
    rw [Array.toList_inj] at e
    rw [e]
theorem asAddr_some {P : Program} (a : Addr) (w : World) : (asAddr (.pointer (some a))).run P w = .ok a w := rfl
/-- a box of cells stays -/
theorem cells_own {B b : Nat} {cs : Array Value} {t : TypeId} {fr : Nat × Nat} : OwnFrom B (fun (_ : Unit) W => W.heap[b]? = some (.cells cs t fr)) := fun s A A' row h hg hr => by
  have hlt := (Array.getElem?_eq_some_iff.1 h).1
  refine (hg.block b hlt ?_).trans h
  intro e
  obtain ⟨_, o, ho, hc⟩ := hr b e.symm
  rw [h] at ho
  cases ho
  simp [Obj.isCells] at hc
theorem kpT_b {w : World} (hT : 1 < w.heap.size) (W : World) (l : Nat) (o o' : Obj) (hl : w.heap.size ≤ l) (_ : W.heap[l]? = some o) (_ : o.isCells = false) (_ : o.isWalk = false) : KpT W (W.putObj l o') := World.putObj_heap_other (by omega)
/-- which row a name or a number is asked of -/
def hitN (T : Int) (n : Nat) (x : Rw) : Bool := decide ((x.t : Int) = T) && decide (x.n = n)
def hitS (T : Int) (s : ByteArray) (x : Rw) : Bool := decide ((x.t : Int) = T) && decide (bstr x.s = s)
def nameOf (T : Int) (n : Nat) : ByteArray := match allL.find? (hitN T n) with | some x => bstr x.s | none => ⟨#[]⟩
def numOf (T : Int) (s : ByteArray) : Nat × Bool := match allL.find? (hitS T s) with | some x => (x.n, true) | none => (0, false)
theorem find_at {α : Type} (p : α → Bool) : ∀ (pre : List α) (x : α) (rest : List α), (∀ y ∈ pre, p y = false) → p x = true → (pre ++ [x] ++ rest).find? p = some x
  | [], x, rest, _, h => by simp [h]
  | y :: pre, x, rest, h, hx => by
    have h1 := h y (.head _)
    have := find_at p pre x rest (fun z hz => h z (.tail _ hz)) hx
    simp only [List.cons_append, List.find?_cons, h1]
    exact this
theorem find_none {α : Type} (p : α → Bool) (l : List α) (h : ∀ y ∈ l, p y = false) : l.find? p = none := List.find?_eq_none.2 fun y hy => by rw [h y hy]; simp
theorem load_one {w : World} {a : Addr} {x : ByteArray} (h : w.cell? a = some (.string x)) :
    (((asAddr (.pointer (some a))).run Tryd.prog w).andThen fun a w₁ => (loadVar 9 a).run Tryd.prog w₁) = Result.ok (.string x) w := by
  rw [asAddr_some]
  simp only [Result.andThen]
  exact load_str h
theorem load_two {w : World} {a b : Addr} {x : Int} {y : Bool} (h : w.cell? a = some (.int .u32 x)) (h' : w.cell? b = some (.bool y)) :
    (((asAddr (.pointer (some a))).run Tryd.prog w).andThen fun a w₁ => ((loadVar 24 a).run Tryd.prog w₁).andThen fun v w₂ => ((asAddr (.pointer (some b))).run Tryd.prog w₂).andThen fun b w₃ => ((loadVar 4 b).run Tryd.prog w₃).andThen fun u w₄ => Result.ok (Value.tuple #[v, u]) w₄) = Result.ok (Value.tuple #[.int .u32 x, .bool y]) w := by
  rw [asAddr_some]
  simp only [Result.andThen]
  rw [load_u32 h]
  simp only
  rw [asAddr_some]
  simp only
  rw [load_bool h']
theorem put_boxed {W : World} {b : Nat} {t : TypeId} {v : Value} (h : Boxed W b t v) (u : Value) : (W.setCell ⟨b, 0, none⟩ u).heap[b]? = some (.cells #[u] t (0, 0)) := by
  have := heap_setCell_same W b 0 #[v] t u h
  simpa using this
theorem below_setN {w W : World} {b j : Nat} {v : Value} (h : Below w.heap.size w W) (hb : w.heap.size ≤ b) : Below w.heap.size w (W.setCell ⟨b, j, none⟩ v) :=
  h.trans ⟨rfl, rfl, rfl, by simp [World.setCell], fun g hg => Below.heap_setCell _ _ _ _ (by show g ≠ b; omega)⟩
theorem cell_of_block {w w' : World} {b j : Nat} (h : w'.heap[b]? = w.heap[b]?) : w'.cell? ⟨b, j, none⟩ = w.cell? ⟨b, j, none⟩ := World.cell?_of_block (w := w) (a := ⟨b, j, none⟩) h
set_option maxHeartbeats 8000000 in
theorem wname_any (T : Int) (n : Nat) (w : World) (hT : Tb w) :
    Calls Tryd.prog 51 #[.int .i64 T, .int .u32 (n : Int)] w fun e w' => e = .returned (.string (nameOf T n)) ∧ Below w.heap.size w w' := by
  refine (callsIn_wide (n := 4)).1 ?_
  have f0 : Fence.wide.fn 51 := trivial
  have f2 : Fence.wide.fn 101 := trivial
  obtain ⟨W0, hW0⟩ : ∃ W0, W0 = (((w.alloc (.cells #[.int .i64 T] 3)).alloc (.cells #[.int .u32 (n : Int)] 24)).alloc (.cells #[.string ⟨#[]⟩] 9)) := ⟨_, rfl⟩
  have hB0 : Below w.heap.size w W0 := by rw [hW0]; exact (((Below.refl _ w).alloc (Nat.le_refl _) _).alloc (by simp) _).alloc (by simp; omega) _
  have hs0 : W0.heap.size = w.heap.size + 3 := by rw [hW0]; simp
  have x0 : Boxed W0 (w.heap.size) 3 (.int .i64 T) := by
    have h := Boxed.new w 3 (.int .i64 T)
    rw [hW0]; exact ((h).alloc _).alloc _
  have x1 : Boxed W0 (w.heap.size + 1) 24 (.int .u32 (n : Int)) := by
    have h := Boxed.new (w.alloc (.cells #[.int .i64 T] 3)) 24 (.int .u32 (n : Int))
    rw [World.size_alloc] at h
    rw [hW0]; exact (h).alloc _
  have x2 : Boxed W0 (w.heap.size + 1 + 1) 9 (.string ⟨#[]⟩) := by
    have h := Boxed.new ((w.alloc (.cells #[.int .i64 T] 3)).alloc (.cells #[.int .u32 (n : Int)] 24)) 9 (.string ⟨#[]⟩)
    rw [World.size_alloc, World.size_alloc] at h
    rw [hW0]; exact h
  have hseq := rows_seq 3 (by omega) (hT.later hB0)
  have hT1 : 1 < W0.heap.size := (hT.later hB0).lt1
  have HX : Hid (∀ W, Below W0.heap.size W0 W → Boxed W (w.heap.size) 3 (.int .i64 T) ∧ Boxed W (w.heap.size + 1) 24 (.int .u32 (n : Int)) ∧ Boxed W (w.heap.size + 1 + 1) 9 (.string ⟨#[]⟩) ∧ Below w.heap.size w W) := fun W hb => ⟨(hb.block _ (by omega)).trans x0, (hb.block _ (by omega)).trans x1, (hb.block _ (by omega)).trans x2, hB0.trans (hb.mono hB0.size)⟩
  clear x0 x1 x2 hT hB0
  refine callsIn_of_wp_marks Tryd.func51 rfl f0 ?_ rfl
  simp only [Tryd.ntmps51, List.size_toArray, List.length_cons, List.length_nil, Nat.reduceAdd, Nat.reduceSub, Array.replicate_succ, Array.replicate_zero, List.push_toArray, List.append_toArray, List.nil_append, List.cons_append]
  gi_wp2
  rw [← hW0]
  clear hW0
  refine wpIn_rangeFunc_ownH rfl (by omega) (gf := 101) (lb := #[]) rfl f2 (enters_of Tryd.func101 (by kernel_rfl) rfl)
    hseq kpT_t (kpT_b (w := W0) hT1) (Below.refl _ _) (fun _ => rfl)
    (fun pre W => Below W0.heap.size W0 W ∧ ∀ x ∈ pre, hitN T n x = false)
    (fun c pre' W => c = .ret ∧ ∃ pre x, pre' = pre ++ [x] ∧ (∀ y ∈ pre, hitN T n y = false) ∧ hitN T n x = true ∧ W.heap[w.heap.size + 1 + 1]? = some (.cells #[.string (bstr x.s)] 9 (0, 0)) ∧ Below w.heap.size w W)
    (OwnFrom.and (ownFrom_below (Nat.le_refl _) (Nat.le_refl _)) (fun _ _ _ _ h _ _ => h))
    (fun c s X Y row hs hg hr => by
      obtain ⟨e1, pre, x, e2, e3, e4, g0, e7⟩ := hs
      exact ⟨e1, pre, x, e2, e3, e4, cells_own () X Y row g0 hg hr, ownFrom_below (β := Unit) (Nat.le_refl _) (by omega) () X Y row e7 hg hr⟩)
    ⟨Below.refl _ _, fun x hx => by cases hx⟩
    (fun x a' W => ∃ b, a' = { tmps := #[.int .i64 T, .int .u32 (n : Int), .pointer (some ⟨w.heap.size, 0, none⟩), .pointer (some ⟨w.heap.size + 1, 0, none⟩), .pointer (some ⟨w.heap.size + 1 + 1, 0, none⟩), .pointer (some ⟨b, 0, none⟩), x.val, undef, undef, undef, undef, undef, undef, undef, undef, undef, undef, undef, undef], defers := [] } ∧ W0.heap.size ≤ b ∧ W.heap[b]? = some (.cells #[.int .i64 (x.t : Int), .int .u32 (x.n : Int), .string (bstr x.s)] TRow (0, 0)))
    (fun x a' s X Y row hs hg hrow => by
      obtain ⟨b, h1, h2, h3⟩ := hs
      exact ⟨b, h1, h2, cells_own () X Y row h3 hg hrow⟩)
    ?assign ?body ?done ?stop
  case assign =>
    rintro l pre x W K ⟨hB, hpre⟩ hK
    have hb2 : Below W0.heap.size W0 (W.alloc (.cells #[.int .i64 (x.t : Int), .int .u32 (x.n : Int), .string (bstr x.s)] TRow)) := hB.alloc hB.size _
    have hlt : 1 < W.heap.size := Nat.lt_of_lt_of_le hT1 hB.size
    have hsz := hB.size
    have HK2 := hK { tmps := #[.int .i64 T, .int .u32 (n : Int), .pointer (some ⟨w.heap.size, 0, none⟩), .pointer (some ⟨w.heap.size + 1, 0, none⟩), .pointer (some ⟨w.heap.size + 1 + 1, 0, none⟩), .pointer (some ⟨W.heap.size, 0, none⟩), x.val, undef, undef, undef, undef, undef, undef, undef, undef, undef, undef, undef, undef], defers := [] } (W.alloc (.cells #[.int .i64 (x.t : Int), .int .u32 (x.n : Int), .string (bstr x.s)] TRow)) ⟨by simp, fun k o hk h _ => (Below.heap_alloc _ _ _ (Array.getElem?_eq_some_iff.1 h).1).trans h⟩ (Below.heap_alloc _ _ _ hlt) ⟨hb2, hpre⟩ ⟨W.heap.size, rfl, hsz, heap_new W _⟩
    have HK3 : Hid _ := HK2
    clear hK HK2 hb2 hB hpre HX hseq
    gi_wp2
    exact HK3.out
  case body =>
    rintro l pre x a' W hl ⟨r, hr⟩ ⟨hB, hpre⟩ ⟨b, rfl, hbw, hbx⟩ hlt
    obtain ⟨y0, y1, y2, hbe⟩ := HX.out W hB
    have d0 := y0.cell
    have d1 := y1.cell
    have z0 := blk_at hbx 0
    have z1 := blk_at hbx 1
    have z2 := blk_at hbx 2
    simp at z0 z1 z2
    have HY : Hid (Boxed W (w.heap.size + 1 + 1) 9 (.string ⟨#[]⟩) ∧ Below w.heap.size w W) := ⟨y2, hbe⟩
    have HPR : Hid (∀ y ∈ pre, hitN T n y = false) := hpre
    have HBW : Hid (Below W0.heap.size W0 W) := hB
    clear y0 y1 y2 hbe hpre hB HX hseq hbx
    by_cases h1 : (x.t : Int) = T
    · by_cases h2 : x.n = n
      · have e2 : (x.n : Int) = (n : Int) := by omega
        have HH : Hid (hitN T n x = true) := by show _ = _; simp [hitN, h1, h2]
        have q2 := HY.out.1
        have k2 := q2.cell
        have g2 := q2.frozen
        gi_wp2
        refine ⟨(KeepsOthers.setCell _ _ _).from _, rfl, pre, x, rfl, HPR.out, HH.out, put_boxed q2 _, below_setN HY.out.2 (by omega)⟩
      · have e2 : ¬ ((x.n : Int) = (n : Int)) := by omega
        have e3 : ((x.n : Int) == (n : Int)) = false := by simp; omega
        have HH : Hid (hitN T n x = false) := by show _ = _; simp [hitN, h2]
        gi_wp2
        exact ⟨KeepsFrom.refl _ _, rfl, HBW.out, fun y hy => by
          rcases List.mem_append.1 hy with hy | hy
          · exact HPR.out y hy
          · simp at hy; subst hy; exact HH.out⟩
    · have e1 : ((x.t : Int) == T) = false := by simpa using h1
      have HH : Hid (hitN T n x = false) := by show _ = _; simp [hitN, h1]
      gi_wp2
      exact ⟨KeepsFrom.refl _ _, rfl, HBW.out, fun y hy => by
        rcases List.mem_append.1 hy with hy | hy
        · exact HPR.out y hy
        · simp at hy; subst hy; exact HH.out⟩
  case done =>
    rintro D ys W hD rfl ⟨hB, hno⟩ hK
    obtain ⟨y0, y1, y2, hbe⟩ := HX.out W hB
    have k2 := y2.cell
    have g2 := y2.frozen
    have hne : D ≠ w.heap.size + 1 + 1 := by omega
    have r2 : ((W.setCell ⟨w.heap.size + 1 + 1, 0, none⟩ (.string ⟨#[]⟩)).putObj D (.deferred none)).cell? ⟨w.heap.size + 1 + 1, 0, none⟩ = some (.string ⟨#[]⟩) := by rw [cell_of_block (World.putObj_heap_other (Ne.symm hne))]; exact blk_at (put_boxed y2 _) 0
    have hK2 : (W.setCell ⟨w.heap.size + 1 + 1, 0, none⟩ (.string ⟨#[]⟩)).heap[D]? = some (.deferred (some [])) := (Below.heap_setCell _ _ _ _ hne).trans hK
    have HF : Hid (Below w.heap.size w (W.setCell ⟨w.heap.size + 1 + 1, 0, none⟩ (.string ⟨#[]⟩))) := below_setN hbe (by omega)
    have HNo : Hid (nameOf T n = ⟨#[]⟩) := by show _ = _; unfold nameOf; rw [find_none (hitN T n) allL hno]
    clear y0 y1 y2 hbe hB hno HX hseq
    gi_wp2
    refine ⟨by simp, .inl ⟨_, _, rfl, run_takeDeferred hK2, ?_⟩⟩
    refine ⟨_, by rw [results_cell1 (p := 4) (tp := 9) rfl]; exact load_one r2, by rw [HNo.out], HF.out.trans (belowK_b (w := w) (Nat.le_refl _) _ D _ _ (by omega) hK2 rfl rfl)⟩
  case stop =>
    rintro D c pre' W hD ⟨rest, hrest⟩ ⟨rfl, pre, x, rfl, h1, h2, g0, hbe⟩ hK
    have hne : D ≠ w.heap.size + 1 + 1 := by omega
    have r2 : (W.putObj D (.deferred none)).cell? ⟨w.heap.size + 1 + 1, 0, none⟩ = some (.string (bstr x.s)) := by rw [cell_of_block (World.putObj_heap_other (Ne.symm hne))]; exact blk_at g0 0
    have HNo : Hid (nameOf T n = bstr x.s) := by show _ = _; unfold nameOf; rw [hrest, find_at (hitN T n) pre x rest h1 h2]
    have HF : Hid (Below w.heap.size w W) := hbe
    clear hbe g0 h1 h2 hrest HX hseq
    gi_wp2
    refine ⟨by simp, .inl ⟨_, _, rfl, run_takeDeferred hK, ?_⟩⟩
    refine ⟨_, by rw [results_cell1 (p := 4) (tp := 9) rfl]; exact load_one r2, by rw [HNo.out], HF.out.trans (belowK_b (w := w) (Nat.le_refl _) _ D _ _ (by omega) hK rfl rfl)⟩
end Go.Proofs.YtjikibhhhchgeaaDoor
