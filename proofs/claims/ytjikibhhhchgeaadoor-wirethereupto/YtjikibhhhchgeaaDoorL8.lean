import Derived.Test.YtjikibhhhchgeaaDoorJT
import Derived.Test.YtjikibhhhchgeaaDoorJK
namespace Go.Proofs.YtjikibhhhchgeaaDoor
open Go.RowKit Go.Maps Go.Shelf
attribute [local go_sem] Oper.semAt_some
set_option linter.unusedVariables false
set_option linter.unusedSimpArgs false
set_option maxRecDepth 100000

theorem results_cell1 {fn : Func} {p : Tmp} {tp : TypeId} (h : fn.results = #[.cell p tp]) (tmps : Array Value) (P : Program) (w : World) :
    (results fn tmps).run P w = ((asAddr (tmps.getD p undef)).run P w).andThen fun a w₁ => (loadVar tp a).run P w₁ := by
  simp only [results, h]
  simp [Sem.run_bind, Result.andThen]
theorem results_cell2 {fn : Func} {p q : Tmp} {tp tq : TypeId} (h : fn.results = #[.cell p tp, .cell q tq]) (tmps : Array Value) (P : Program) (w : World) :
    (results fn tmps).run P w = ((asAddr (tmps.getD p undef)).run P w).andThen fun a w₁ => ((loadVar tp a).run P w₁).andThen fun v w₂ => ((asAddr (tmps.getD q undef)).run P w₂).andThen fun b w₃ => ((loadVar tq b).run P w₃).andThen fun u w₄ => .ok (.tuple #[v, u]) w₄ := by
  simp only [results, h]
  simp [Sem.run_bind, Result.andThen]
theorem load_str {w : World} {a : Addr} {x : ByteArray} (h : w.cell? a = some (.string x)) : (loadVar 9 a).run Tryd.prog w = .ok (.string x) w := by
  simp [loadVar, go_sem, h]
theorem load_u32 {w : World} {a : Addr} {x : Int} (h : w.cell? a = some (.int .u32 x)) : (loadVar 24 a).run Tryd.prog w = .ok (.int .u32 x) w := by
  simp [loadVar, go_sem, h]
theorem load_bool {w : World} {a : Addr} {x : Bool} (h : w.cell? a = some (.bool x)) : (loadVar 4 a).run Tryd.prog w = .ok (.bool x) w := by
  simp [loadVar, go_sem, h]
theorem bytes_ne {p q : ByteArray} (h : p ≠ q) : (p.toList == q.toList) = false := by
  cases hb : (p.toList == q.toList)
  · rfl
  · exfalso
    apply h
    have e : p.data.toList = q.data.toList := by rw [← ByteArray.toList_eq, ← ByteArray.toList_eq]; simpa using hb
    cases p; cases q
    simp only at e
    rw [Array.toList_inj] at e
    rw [e]
theorem asAddr_some {P : Program} (a : Addr) (w : World) : (asAddr (.pointer (some a))).run P w = .ok a w := rfl
/-- a box of cells stays -/
theorem cells_own {B b : Nat} {cs : Array Value} {t : TypeId} {fr : Nat × Nat} : OwnFrom B (fun (_ : Unit) W => W.heap[b]? = some (.cells cs t fr)) := fun s A A' row h hg hr => by
  have hlt := (Array.getElem?_eq_some_iff.1 h).1
  refine (hg.block b hlt ?_).trans h
  intro e
  obtain ⟨_, o, ho, hc⟩ := hr b e.symm
  rw [h] at ho
  cases ho
  simp [Obj.isCells] at hc
theorem kpT_b {w : World} (hT : 1 < w.heap.size) (W : World) (l : Nat) (o o' : Obj) (hl : w.heap.size ≤ l) (_ : W.heap[l]? = some o) (_ : o.isCells = false) (_ : o.isWalk = false) : KpT W (W.putObj l o') := World.putObj_heap_other (by omega)
/-- which row a name or a number is asked of -/
def hitN (T : Int) (n : Nat) (x : Rw) : Bool := decide ((x.t : Int) = T) && decide (x.n = n)
def hitS (T : Int) (s : ByteArray) (x : Rw) : Bool := decide ((x.t : Int) = T) && decide (bstr x.s = s)
def nameOf (T : Int) (n : Nat) : ByteArray := match allL.find? (hitN T n) with | some x => bstr x.s | none => ⟨#[]⟩
def numOf (T : Int) (s : ByteArray) : Nat × Bool := match allL.find? (hitS T s) with | some x => (x.n, true) | none => (0, false)
theorem find_at {α : Type} (p : α → Bool) : ∀ (pre : List α) (x : α) (rest : List α), (∀ y ∈ pre, p y = false) → p x = true → (pre ++ [x] ++ rest).find? p = some x
  | [], x, rest, _, h => by simp [h]
  | y :: pre, x, rest, h, hx => by
    have h1 := h y (.head _)
    have := find_at p pre x rest (fun z hz => h z (.tail _ hz)) hx
    simp only [List.cons_append, List.find?_cons, h1]
    exact this
theorem find_none {α : Type} (p : α → Bool) (l : List α) (h : ∀ y ∈ l, p y = false) : l.find? p = none := List.find?_eq_none.2 fun y hy => by rw [h y hy]; simp
theorem load_one {w : World} {a : Addr} {x : ByteArray} (h : w.cell? a = some (.string x)) :
    (((asAddr (.pointer (some a))).run Tryd.prog w).andThen fun a w₁ => (loadVar 9 a).run Tryd.prog w₁) = Result.ok (.string x) w := by
  rw [asAddr_some]
  simp only [Result.andThen]
  exact load_str h
theorem load_two {w : World} {a b : Addr} {x : Int} {y : Bool} (h : w.cell? a = some (.int .u32 x)) (h' : w.cell? b = some (.bool y)) :
    (((asAddr (.pointer (some a))).run Tryd.prog w).andThen fun a w₁ => ((loadVar 24 a).run Tryd.prog w₁).andThen fun v w₂ => ((asAddr (.pointer (some b))).run Tryd.prog w₂).andThen fun b w₃ => ((loadVar 4 b).run Tryd.prog w₃).andThen fun u w₄ => Result.ok (Value.tuple #[v, u]) w₄) = Result.ok (Value.tuple #[.int .u32 x, .bool y]) w := by
  rw [asAddr_some]
  simp only [Result.andThen]
  rw [load_u32 h]
  simp only
  rw [asAddr_some]
  simp only
  rw [load_bool h']
theorem put_boxed {W : World} {b : Nat} {t : TypeId} {v : Value} (h : Boxed W b t v) (u : Value) : (W.setCell ⟨b, 0, none⟩ u).heap[b]? = some (.cells #[u] t (0, 0)) := by
  have := heap_setCell_same W b 0 #[v] t u h
  simpa using this
theorem below_setN {w W : World} {b j : Nat} {v : Value} (h : Below w.heap.size w W) (hb : w.heap.size ≤ b) : Below w.heap.size w (W.setCell ⟨b, j, none⟩ v) :=
  h.trans ⟨rfl, rfl, rfl, by simp [World.setCell], fun g hg => Below.heap_setCell _ _ _ _ (by show g ≠ b; omega)⟩
theorem cell_of_block {w w' : World} {b j : Nat} (h : w'.heap[b]? = w.heap[b]?) : w'.cell? ⟨b, j, none⟩ = w.cell? ⟨b, j, none⟩ := World.cell?_of_block (w := w) (a := ⟨b, j, none⟩) h
set_option maxHeartbeats 8000000 in
theorem wname_any (T : Int) (n : Nat) (w : World) (hT : Tb w) :
    Calls Tryd.prog 51 #[.int .i64 T, .int .u32 (n : Int)] w fun e w' => e = .returned (.string (nameOf T n)) ∧ Below w.heap.size w w' := by
  refine (callsIn_wide (n := 4)).1 ?_
  have f0 : Fence.wide.fn 51 := trivial
  have f2 : Fence.wide.fn 101 := trivial
  obtain ⟨W0, hW0⟩ : ∃ W0, W0 = (((w.alloc (.cells #[.int .i64 T] 3)).alloc (.cells #[.int .u32 (n : Int)] 24)).alloc (.cells #[.string ⟨#[]⟩] 9)) := ⟨_, rfl⟩
  have hB0 : Below w.heap.size w W0 := by rw [hW0]; exact (((Below.refl _ w).alloc (Nat.le_refl _) _).alloc (by simp) _).alloc (by simp; omega) _
  have hs0 : W0.heap.size = w.heap.size + 3 := by rw [hW0]; simp
  have x0 : Boxed W0 (w.heap.size) 3 (.int .i64 T) := by
    have h := Boxed.new w 3 (.int .i64 T)
    rw [hW0]; exact ((h).alloc _).alloc _
  have x1 : Boxed W0 (w.heap.size + 1) 24 (.int .u32 (n : Int)) := by
    have h := Boxed.new (w.alloc (.cells #[.int .i64 T] 3)) 24 (.int .u32 (n : Int))
    rw [World.size_alloc] at h
    rw [hW0]; exact (h).alloc _
  have x2 : Boxed W0 (w.heap.size + 1 + 1) 9 (.string ⟨#[]⟩) := by
    have h := Boxed.new ((w.alloc (.cells #[.int .i64 T] 3)).alloc (.cells #[.int .u32 (n : Int)] 24)) 9 (.string ⟨#[]⟩)
    rw [World.size_alloc, World.size_alloc] at h
    rw [hW0]; exact h
  have hseq := rows_seq 3 (by omega) (hT.later hB0)
  have hT1 : 1 < W0.heap.size := (hT.later hB0).lt1
  have HX : Hid (∀ W, Below W0.heap.size W0 W → Boxed W (w.heap.size) 3 (.int .i64 T) ∧ Boxed W (w.heap.size + 1) 24 (.int .u32 (n : Int)) ∧ Boxed W (w.heap.size + 1 + 1) 9 (.string ⟨#[]⟩) ∧ Below w.heap.size w W) := fun W hb => ⟨(hb.block _ (by omega)).trans x0, (hb.block _ (by omega)).trans x1, (hb.block _ (by omega)).trans x2, hB0.trans (hb.mono hB0.size)⟩
  clear x0 x1 x2 hT hB0
  refine callsIn_of_wp_marks Tryd.func51 rfl f0 ?_ rfl
  simp only [Tryd.ntmps51, List.size_toArray, List.length_cons, List.length_nil, Nat.reduceAdd, Nat.reduceSub, Array.replicate_succ, Array.replicate_zero, List.push_toArray, List.append_toArray, List.nil_append, List.cons_append]
  gi_wp2
  rw [← hW0]
  clear hW0
  refine wpIn_rangeFunc_ownH rfl (by omega) (gf := 101) (lb := #[]) rfl f2 (enters_of Tryd.func101 (by kernel_rfl) rfl)
    hseq kpT_t (kpT_b (w := W0) hT1) (Below.refl _ _) (fun _ => rfl)
    (fun pre W => Below W0.heap.size W0 W ∧ ∀ x ∈ pre, hitN T n x = false)
    (fun c pre' W => c = .ret ∧ ∃ pre x, pre' = pre ++ [x] ∧ (∀ y ∈ pre, hitN T n y = false) ∧ hitN T n x = true ∧ W.heap[w.heap.size + 1 + 1]? = some (.cells #[.string (bstr x.s)] 9 (0, 0)) ∧ Below w.heap.size w W)
    (OwnFrom.and (ownFrom_below (Nat.le_refl _) (Nat.le_refl _)) (fun _ _ _ _ h _ _ => h))
    (fun c s X Y row hs hg hr => by
      obtain ⟨e1, pre, x, e2, e3, e4, g0, e7⟩ := hs
      exact ⟨e1, pre, x, e2, e3, e4, cells_own () X Y row g0 hg hr, ownFrom_below (β := Unit) (Nat.le_refl _) (by omega) () X Y row e7 hg hr⟩)
    ⟨Below.refl _ _, fun x hx => by cases hx⟩
    (fun x a' W => ∃ b, a' = { tmps := #[.int .i64 T, .int .u32 (n : Int), .pointer (some ⟨w.heap.size, 0, none⟩), .pointer (some ⟨w.heap.size + 1, 0, none⟩), .pointer (some ⟨w.heap.size + 1 + 1, 0, none⟩), .pointer (some ⟨b, 0, none⟩), x.val, undef, undef, undef, undef, undef, undef, undef, undef, undef, undef, undef, undef], defers := [] } ∧ W0.heap.size ≤ b ∧ W.heap[b]? = some (.cells #[.int .i64 (x.t : Int), .int .u32 (x.n : Int), .string (bstr x.s)] TRow (0, 0)))
    (fun x a' s X Y row hs hg hrow => by
      obtain ⟨b, h1, h2, h3⟩ := hs
      exact ⟨b, h1, h2, cells_own () X Y row h3 hg hrow⟩)
    ?assign ?body ?done ?stop
  case assign =>
    rintro l pre x W K ⟨hB, hpre⟩ hK
    have hb2 : Below W0.heap.size W0 (W.alloc (.cells #[.int .i64 (x.t : Int), .int .u32 (x.n : Int), .string (bstr x.s)] TRow)) := hB.alloc hB.size _
    have hlt : 1 < W.heap.size := Nat.lt_of_lt_of_le hT1 hB.size
    have hsz := hB.size
    have HK2 := hK { tmps := #[.int .i64 T, .int .u32 (n : Int), .pointer (some ⟨w.heap.size, 0, none⟩), .pointer (some ⟨w.heap.size + 1, 0, none⟩), .pointer (some ⟨w.heap.size + 1 + 1, 0, none⟩), .pointer (some ⟨W.heap.size, 0, none⟩), x.val, undef, undef, undef, undef, undef, undef, undef, undef, undef, undef, undef, undef], defers := [] } (W.alloc (.cells #[.int .i64 (x.t : Int), .int .u32 (x.n : Int), .string (bstr x.s)] TRow)) ⟨by simp, fun k o hk h _ => (Below.heap_alloc _ _ _ (Array.getElem?_eq_some_iff.1 h).1).trans h⟩ (Below.heap_alloc _ _ _ hlt) ⟨hb2, hpre⟩ ⟨W.heap.size, rfl, hsz, heap_new W _⟩
    have HK3 : Hid _ := HK2
    clear hK HK2 hb2 hB hpre HX hseq
    gi_wp2
    exact HK3.out
  case body =>
    rintro l pre x a' W hl ⟨r, hr⟩ ⟨hB, hpre⟩ ⟨b, rfl, hbw, hbx⟩ hlt
    obtain ⟨y0, y1, y2, hbe⟩ := HX.out W hB
    have d0 := y0.cell
    have d1 := y1.cell
    have z0 := blk_at hbx 0
    have z1 := blk_at hbx 1
    have z2 := blk_at hbx 2
    simp at z0 z1 z2
    have HY : Hid (Boxed W (w.heap.size + 1 + 1) 9 (.string ⟨#[]⟩) ∧ Below w.heap.size w W) := ⟨y2, hbe⟩
    have HPR : Hid (∀ y ∈ pre, hitN T n y = false) := hpre
    have HBW : Hid (Below W0.heap.size W0 W) := hB
    clear y0 y1 y2 hbe hpre hB HX hseq hbx
    by_cases h1 : (x.t : Int) = T
    · by_cases h2 : x.n = n
      · have e2 : (x.n : Int) = (n : Int) := by omega
        have HH : Hid (hitN T n x = true) := by show _ = _; simp [hitN, h1, h2]
        have q2 := HY.out.1
        have k2 := q2.cell
        have g2 := q2.frozen
        gi_wp2
        refine ⟨(KeepsOthers.setCell _ _ _).from _, rfl, pre, x, rfl, HPR.out, HH.out, put_boxed q2 _, below_setN HY.out.2 (by omega)⟩
      · have e2 : ¬ ((x.n : Int) = (n : Int)) := by omega
        have e3 : ((x.n : Int) == (n : Int)) = false := by simp; omega
        have HH : Hid (hitN T n x = false) := by show _ = _; simp [hitN, h2]
        gi_wp2
        exact ⟨KeepsFrom.refl _ _, rfl, HBW.out, fun y hy => by
          rcases List.mem_append.1 hy with hy | hy
          · exact HPR.out y hy
          · simp at hy; subst hy; exact HH.out⟩
    · have e1 : ((x.t : Int) == T) = false := by simpa using h1
      have HH : Hid (hitN T n x = false) := by show _ = _; simp [hitN, h1]
      gi_wp2
      exact ⟨KeepsFrom.refl _ _, rfl, HBW.out, fun y hy => by
        rcases List.mem_append.1 hy with hy | hy
        · exact HPR.out y hy
        · simp at hy; subst hy; exact HH.out⟩
  case done =>
    rintro D ys W hD rfl ⟨hB, hno⟩ hK
    obtain ⟨y0, y1, y2, hbe⟩ := HX.out W hB
    have k2 := y2.cell
    have g2 := y2.frozen
    have hne : D ≠ w.heap.size + 1 + 1 := by omega
    have r2 : ((W.setCell ⟨w.heap.size + 1 + 1, 0, none⟩ (.string ⟨#[]⟩)).putObj D (.deferred none)).cell? ⟨w.heap.size + 1 + 1, 0, none⟩ = some (.string ⟨#[]⟩) := by rw [cell_of_block (World.putObj_heap_other (Ne.symm hne))]; exact blk_at (put_boxed y2 _) 0
    have hK2 : (W.setCell ⟨w.heap.size + 1 + 1, 0, none⟩ (.string ⟨#[]⟩)).heap[D]? = some (.deferred (some [])) := (Below.heap_setCell _ _ _ _ hne).trans hK
    have HF : Hid (Below w.heap.size w (W.setCell ⟨w.heap.size + 1 + 1, 0, none⟩ (.string ⟨#[]⟩))) := below_setN hbe (by omega)
    have HNo : Hid (nameOf T n = ⟨#[]⟩) := by show _ = _; unfold nameOf; rw [find_none (hitN T n) allL hno]
    clear y0 y1 y2 hbe hB hno HX hseq
    gi_wp2
    refine ⟨by simp, .inl ⟨_, _, rfl, run_takeDeferred hK2, ?_⟩⟩
    refine ⟨_, by rw [results_cell1 (p := 4) (tp := 9) rfl]; exact load_one r2, by rw [HNo.out], HF.out.trans (belowK_b (w := w) (Nat.le_refl _) _ D _ _ (by omega) hK2 rfl rfl)⟩
  case stop =>
    rintro D c pre' W hD ⟨rest, hrest⟩ ⟨rfl, pre, x, rfl, h1, h2, g0, hbe⟩ hK
    have hne : D ≠ w.heap.size + 1 + 1 := by omega
    have r2 : (W.putObj D (.deferred none)).cell? ⟨w.heap.size + 1 + 1, 0, none⟩ = some (.string (bstr x.s)) := by rw [cell_of_block (World.putObj_heap_other (Ne.symm hne))]; exact blk_at g0 0
    have HNo : Hid (nameOf T n = bstr x.s) := by show _ = _; unfold nameOf; rw [hrest, find_at (hitN T n) pre x rest h1 h2]
    have HF : Hid (Below w.heap.size w W) := hbe
    clear hbe g0 h1 h2 hrest HX hseq
    gi_wp2
    refine ⟨by simp, .inl ⟨_, _, rfl, run_takeDeferred hK, ?_⟩⟩
    refine ⟨_, by rw [results_cell1 (p := 4) (tp := 9) rfl]; exact load_one r2, by rw [HNo.out], HF.out.trans (belowK_b (w := w) (Nat.le_refl _) _ D _ _ (by omega) hK rfl rfl)⟩
end Go.Proofs.YtjikibhhhchgeaaDoor

namespace Go.Proofs.YtjikibhhhchgeaaDoor
open Go.RowKit
set_option linter.unusedVariables false
set_option linter.unusedSimpArgs false
set_option maxRecDepth 100000
set_option maxHeartbeats 8000000 in
theorem decOption_ok (b off cap n : Nat) (l : List Nat) (most : Nat) (c k : Nat) (w : World) (h : CRow w (some ⟨b, off, none⟩) cap l) (HN : Hid (l.length = n)) (hs : 16 ≤ n) (HX : Hid (valB ((l.drop 0).take 8) = mHave)) (HX1 : Hid (valB ((l.drop 8).take 4) = c)) (HX2 : Hid (valB ((l.drop 12).take 4) = k)) (hc4 : c < 4294967296) (hk4 : k < 4294967296) (hm4 : most < 4294967296) (hle : k ≤ most) (hfit : k ≤ n - 16) (N : Nat) (hN : 16 + k = N) (m : List Nat) (hm : (l.drop 16).take k = m) :
    Calls Tryd.prog 49 #[.slice (some ⟨b, off, none⟩) n cap, .int .u32 (most : Int)] w fun e w' => ∃ ao2 cap2, e = .returned (.tuple #[.agg #[.int .u32 (c : Int), .int .u32 (k : Int), .bool false, .slice ao2 k cap2], .int .i64 (N : Int), .int .i64 0]) ∧ w'.ownsRow w.heap.size 5 1 (.slice ao2 k cap2) k (m.map bv) ∧ Below w.heap.size w w' := by
  have hnl := h.row.len
  rw [HN.out] at hnl
  have hsl : 16 ≤ l.length := by rw [HN.out]; exact hs
  have HC : Hid (CRow w (some ⟨b, off, none⟩) cap l) := h
  obtain ⟨W0, hW0⟩ : ∃ W0, W0 = (((w.alloc (.cells #[.int .u32 0, .int .u32 0, .bool false, nilV] 111)).alloc (.cells #[.int .u32 0, .int .u32 0, .bool false, nilV] 111)).alloc (.cells #[.int .u32 0, .int .u32 0, .bool false, nilV] 111)) := ⟨_, rfl⟩
  have HO : Hid (Calls Tryd.prog 81 #[.slice (some ⟨b, off, none⟩) n cap, .int .i64 16] W0 fun e W' => ∃ r hh ao' cap' a2 c2, e = .returned (.pointer (some ⟨r, 0, none⟩)) ∧ Dec w W' (bx3 w 111 #[.int .u32 0, .int .u32 0, .bool false, nilV] #[.int .u32 0, .int .u32 0, .bool false, nilV] #[.int .u32 0, .int .u32 0, .bool false, nilV]) W0.heap.size r hh ao' cap' (l.take 16) 0 (.slice (some a2) (n - 16) c2) 0 16 0 ∧ n - 16 ≤ c2 ∧ c2 ≤ 9223372036854775807 ∧ (n - 16 ≠ 0 → a2 = ⟨b, off + 16, none⟩)) := by
    rw [hW0]; exact open_ok b off cap n 16 l (bx3_bel w _ _ _) (bx3_new w _ _ _ _) (bx3_nd w _ _ _ _) (h.later (bx3_bel w _ _ _)) HN hs (by decide) (by decide)
  clear h
  go_enter Tryd.func49, Tryd.ntmps49
  go_wp2
  refine wp_scope_jumps 0 (fun _ _ => False) (fun _ _ => 0) rfl ?first ?pass
  case first =>
    go_wp2_with fail
    rw [← hW0]
    clear hW0
    refine HO.out.mono ?_
    rintro e W1 ⟨r, hh, ao', cap', a2, c2, rfl, h1, hc1, hc2, ha2⟩
    have H1 : Hid _ := h1
    have HA : Hid _ := ha2
    clear h1 HO ha2
    go_wp2_with fail
    refine (rx_u64 H1.out mHave HX.out (by decide) hsl).mono ?_
    rintro e W2 ⟨rfl, hx⟩
    have H2 : Hid _ := hx
    clear hx H1
    go_wp2_with fail
    refine (magic_ok H2.out mHave).mono ?_
    rintro e W3 ⟨rfl, hx⟩
    have H3 : Hid _ := hx
    clear hx H2
    go_wp2_with fail
    refine (rx_u32 H3.out c HX1.out (by decide) hsl).mono ?_
    rintro e W4 ⟨rfl, hx⟩
    have H4 : Hid _ := hx
    clear hx H3
    go_wp2_with fail
    refine (rx_u32 H4.out k HX2.out (by decide) hsl).mono ?_
    rintro e W5 ⟨rfl, hx⟩
    have H5 : Hid _ := hx
    clear hx H4
    obtain ⟨s0, u0⟩ := H5.out.b (.tail _ (.tail _ (.head _))) 0
    simp at s0
    obtain ⟨s1, u1⟩ := H5.out.b (.tail _ (.tail _ (.head _))) 1
    simp at s1
    go_wp2_with fail
    replace H5 : Hid _ := H5.out.putS 0 (.int .u32 (c : Int)) #[.int .u32 (c : Int), .int .u32 0, .bool false, nilV] rfl
    replace H5 : Hid _ := H5.out.putS 1 (.int .u32 (k : Int)) #[.int .u32 (c : Int), .int .u32 (k : Int), .bool false, nilV] rfl
    refine (measure_rest H5.out (by decide) (by omega) k most hm4 hle N hN).mono ?_
    rintro e W6 hx
    have HX9 : Hid _ := hx
    clear hx H5 s0 u0 s1 u1
    rcases HX9.out with ⟨hx, _⟩ | ⟨_, rfl, hx⟩
    · omega
    have H6 : Hid _ := hx
    clear hx HX9
    have r4 := H6.out.lb.ce
    have hml : m.length = k := by rw [← hm, List.length_take, List.length_drop, HN.out]; omega
    have hmt : ∀ x ∈ m, x < 256 := fun x hx => HC.out.row.lt x (by rw [← hm] at hx; exact List.mem_of_mem_drop (List.mem_of_mem_take hx))
    have HDt : Hid (∀ q, Calls Tryd.prog 87 #[.pointer (some ⟨r, 0, none⟩)] (W6.drewN q) fun e W' => ∃ ao2 cap2, e = .returned (.slice ao2 k cap2) ∧ W'.ownsRow W6.heap.size 5 1 (.slice ao2 k cap2) k (m.map bv) ∧ Below W6.heap.size (W6.drewN q) W' ∧ Dec w W' (bx3 w 111 #[.int .u32 0, .int .u32 0, .bool false, nilV] #[.int .u32 0, .int .u32 0, .bool false, nilV] #[.int .u32 (c : Int), .int .u32 (k : Int), .bool false, nilV]) W0.heap.size r hh ao' cap' (l.take 16) (0 + 8 + 4 + 4) (.slice (some a2) (n - 16) c2) ((k : Nat) : Int) (N : Int) 0) := fun q => data_any (len := k) (H6.out.drewN q) m hml hmt (by rw [← hm]; exact tail_news HC.out (H6.out.drewN q).bel (by rw [HN.out]; exact HA.out)) (by omega) hc1 (by omega) hc2
    have HB : Hid (w.heap.size + 1 + 1 < W6.heap.size) := by show _ < _; have h1 := block_lt H6.out.rd; have h2 := H6.out.hr; have h3 : w.heap.size + 1 + 1 < _ := (H6.out.box _ (.tail _ (.tail _ (.head _)))).2.2; omega
    obtain ⟨s2, u2⟩ := H6.out.b (.tail _ (.tail _ (.head _))) 2
    simp at s2
    obtain ⟨s3, u3⟩ := H6.out.b (.tail _ (.tail _ (.head _))) 3
    simp at s3
    clear H6 HX HX1 HX2 HN HC hml hmt HA
    go_wp2
    go_region_with (go_at_call 87; refine (HDt.out _).mono ?_; rintro e W7 ⟨ao2, cap2, rfl, ho, hb, h9⟩; have H7 : Hid _ := h9; have HR : Hid (W7.ownsRow W6.heap.size 5 1 (.slice ao2 k cap2) k (m.map bv)) := ho; clear h9 ho hb; have r4' := H7.out.lb.ce; obtain ⟨q2, w2⟩ := H7.out.b (.tail _ (.tail _ (.head _))) 2; obtain ⟨q3, w3⟩ := H7.out.b (.tail _ (.tail _ (.head _))) 3; simp at q2 q3)
    all_goals
      clear s2 u2 s3 u3 r4 r4' q2 w2 q3 w3
      obtain ⟨c10, f10⟩ := H7.out.b (.tail _ (.head _)) 0
      obtain ⟨c20, f20⟩ := H7.out.b (.tail _ (.tail _ (.head _))) 0
      obtain ⟨c11, f11⟩ := H7.out.b (.tail _ (.head _)) 1
      obtain ⟨c21, f21⟩ := H7.out.b (.tail _ (.tail _ (.head _))) 1
      obtain ⟨c12, f12⟩ := H7.out.b (.tail _ (.head _)) 2
      obtain ⟨c22, f22⟩ := H7.out.b (.tail _ (.tail _ (.head _))) 2
      obtain ⟨c13, f13⟩ := H7.out.b (.tail _ (.head _)) 3
      obtain ⟨c23, f23⟩ := H7.out.b (.tail _ (.tail _ (.head _))) 3
      simp at c10 c20 c11 c21 c12 c22 c13 c23
      go_wp2
      go_step3
      have HF : Hid _ := ((((((H7.out.putS 2 (.bool false) #[.int .u32 (c : Int), .int .u32 (k : Int), .bool false, nilV] rfl).putS 3 (.slice ao2 k cap2) #[.int .u32 (c : Int), .int .u32 (k : Int), .bool false, .slice ao2 k cap2] rfl).putO 0 (.int .u32 (c : Int)) #[.int .u32 (c : Int), .int .u32 0, .bool false, nilV] rfl).putO 1 (.int .u32 (k : Int)) #[.int .u32 (c : Int), .int .u32 (k : Int), .bool false, nilV] rfl).putO 2 (.bool false) #[.int .u32 (c : Int), .int .u32 (k : Int), .bool false, nilV] rfl).putO 3 (.slice ao2 k cap2) #[.int .u32 (c : Int), .int .u32 (k : Int), .bool false, .slice ao2 k cap2] rfl)
      have HW : Hid ((((((((W7.setCell ⟨w.heap.size + 1 + 1, 2, none⟩ (.bool false)).setCell ⟨w.heap.size + 1 + 1, 3, none⟩ (.slice ao2 k cap2)).setCell ⟨w.heap.size + 1, 0, none⟩ (.int .u32 (c : Int))).setCell ⟨w.heap.size + 1, 1, none⟩ (.int .u32 (k : Int))).setCell ⟨w.heap.size + 1, 2, none⟩ (.bool false)).setCell ⟨w.heap.size + 1, 3, none⟩ (.slice ao2 k cap2))).ownsRow W6.heap.size 5 1 (.slice ao2 k cap2) k (m.map bv)) := setAll_owns [(w.heap.size + 1 + 1, 2, .bool false), (w.heap.size + 1 + 1, 3, .slice ao2 k cap2), (w.heap.size + 1, 0, .int .u32 (c : Int)), (w.heap.size + 1, 1, .int .u32 (k : Int)), (w.heap.size + 1, 2, .bool false), (w.heap.size + 1, 3, .slice ao2 k cap2)] W7 HR.out (by have := HB.out; simp; omega)
      clear HR H7 c10 f10 c20 f20 c11 f11 c21 f21 c12 f12 c22 f22 c13 f13 c23 f23
      generalize ((((((W7.setCell ⟨w.heap.size + 1 + 1, 2, none⟩ (.bool false)).setCell ⟨w.heap.size + 1 + 1, 3, none⟩ (.slice ao2 k cap2)).setCell ⟨w.heap.size + 1, 0, none⟩ (.int .u32 (c : Int))).setCell ⟨w.heap.size + 1, 1, none⟩ (.int .u32 (k : Int))).setCell ⟨w.heap.size + 1, 2, none⟩ (.bool false)).setCell ⟨w.heap.size + 1, 3, none⟩ (.slice ao2 k cap2)) = Wx at *
      have hn1 : ¬ (w.heap.size = r) := (HF.out.lb.box _ (.head _)).2.2
      have hn2 : ¬ (r = w.heap.size) := fun e => hn1 e.symm
      have r3 := HF.out.lb.cn
      have r4 := HF.out.lb.ce
      obtain ⟨c00, f00⟩ := HF.out.b (.head _) 0
      obtain ⟨c10, f10⟩ := HF.out.b (.tail _ (.head _)) 0
      obtain ⟨c01, f01⟩ := HF.out.b (.head _) 1
      obtain ⟨c11, f11⟩ := HF.out.b (.tail _ (.head _)) 1
      obtain ⟨c02, f02⟩ := HF.out.b (.head _) 2
      obtain ⟨c12, f12⟩ := HF.out.b (.tail _ (.head _)) 2
      obtain ⟨c03, f03⟩ := HF.out.b (.head _) 3
      obtain ⟨c13, f13⟩ := HF.out.b (.tail _ (.head _)) 3
      simp at c00 c10 c01 c11 c02 c12 c03 c13
      go_wp2
      go_region
      all_goals
        go_wp2
        rw [jump_ret]
        have HW2 := setAll_owns [(w.heap.size, 0, .int .u32 (c : Int)), (w.heap.size, 1, .int .u32 (k : Int)), (w.heap.size, 2, .bool false), (w.heap.size, 3, .slice ao2 k cap2)] Wx HW.out (by have := HB.out; simp; omega)
        have HB2 := below_drew (setAll_below [(w.heap.size, 0, .int .u32 (c : Int)), (w.heap.size, 1, .int .u32 (k : Int)), (w.heap.size, 2, .bool false), (w.heap.size, 3, .slice ao2 k cap2)] Wx HF.out.bel (by simp))
        exact bodyPost_ret (results_cell_tmp2 rfl _ _ w.heap.size 111 #[.int .u32 (c : Int), .int .u32 (k : Int), .bool false, .slice ao2 k cap2] (0, 0) _ rfl (put_box (put_box (put_box (put_box (HF.out.box _ (.head _)).1 0 (.int .u32 (c : Int)) rfl) 1 (.int .u32 (k : Int)) rfl) 2 (.bool false) rfl) 3 (.slice ao2 k cap2) rfl) Tryd.underlying111 rfl infoOpt) rfl ⟨_, _, rfl, owns_mono HW2 (by have := HB.out; omega), HB2⟩
  case pass =>
    rintro a W hf
    exact hf.elim
end Go.Proofs.YtjikibhhhchgeaaDoor

namespace Go.Proofs.YtjikibhhhchgeaaDoor
open Go.RowKit
set_option linter.unusedVariables false
set_option linter.unusedSimpArgs false
set_option maxRecDepth 100000

set_option maxHeartbeats 400000 in
theorem num_any (e : Int) (w : World) : Calls Tryd.prog 12 #[.int .i64 e] w fun r w' => r = .returned (.int .i64 e) ∧ w' = w := by
  go_enter Tryd.func12, Tryd.ntmps12
  go_wp2
  go_ret
  exact ⟨rfl, rfl⟩
theorem oL3_len : (oL 3 []).length = 16 := by decide
theorem gL3_len : (gL 3).length = 18 := by decide
theorem brow_nil (w : World) : BRow w none 0 [] := ⟨by simp, by simp, fun _ => ⟨rfl, rfl⟩, fun h => absurd rfl h⟩
set_option maxHeartbeats 4000000 in
theorem alive_any (w : World) (hT : Tb w) : Calls Tryd.prog 10 #[] w fun e w' => e = .returned (.bool true) ∧ Below w.heap.size w w' := by
  have HE : Hid (Calls Tryd.prog 48 #[.agg #[.int .u32 3, .int .u32 0, .bool false, .slice none 0 0]] w fun e w' => ∃ ao cap, e = .returned (.tuple #[.slice ao 16 cap, .int .i64 0]) ∧ Row w w' ao cap (oL 3 [])) := by
    have := encOption 3 none 0 [] w (by decide) (brow_nil w) (by simp) (by simp)
    rw [oL3_len] at this
    exact this
  have HTb : Hid (Tb w) := hT
  have HNum : Hid (∀ (e : Int) (w : World), Calls Tryd.prog 12 #[.int .i64 e] w fun r w' => r = .returned (.int .i64 e) ∧ w' = w) := num_any
  clear hT
  go_enter Tryd.func10, Tryd.ntmps10
  go_wp2_with fail
  refine HE.out.mono ?_
  rintro e w1 ⟨ao, cap, rfl, hr⟩
  have hc := hr.crow (by rw [oL3_len]; decide)
  have hb1 := hr.bel
  obtain ⟨b, off, rfl⟩ := hc.some (by rw [oL3_len]; decide)
  have HD : Hid (Calls Tryd.prog 49 #[.slice (some ⟨b, off, none⟩) 16 cap, .int .u32 0] w1 fun e w' => ∃ ao2 cap2, e = .returned (.tuple #[.agg #[.int .u32 3, .int .u32 0, .bool false, .slice ao2 0 cap2], .int .i64 16, .int .i64 0]) ∧ Below w1.heap.size w1 w') :=
    (decOption_ok b off cap 16 (oL 3 []) 0 3 0 w1 hc oL3_len (by decide) (by show valB _ = _; decide) (by show valB _ = _; decide) (by show valB _ = _; decide) (by decide) (by decide) (by decide) (by decide) (by decide) 16 rfl [] (by simp)).mono fun e w' ⟨ao2, cap2, he, _, hb⟩ => ⟨ao2, cap2, he, hb⟩
  have HB1 : Hid (Below w.heap.size w w1) := hb1
  clear hr hc hb1 HE
  go_wp2_with fail
  refine HD.out.mono ?_
  rintro e w2 ⟨ao2, cap2, rfl, hb⟩
  have HB2 : Hid (Below w.heap.size w w2) := HB1.out.trans (hb.mono HB1.out.size)
  clear hb HD HB1
  go_wp2_with (first | (go_at_call 12; refine (HNum.out _ _).mono ?_; rintro e w9 ⟨rfl, rfl⟩))
  obtain ⟨W3, hW3⟩ : ∃ W3, W3 = w2.alloc (.cells #[.int .u32 3, .int .u32 0, .bool false, .slice ao2 0 cap2] 111) := ⟨_, rfl⟩
  have HB3 : Hid (Below w.heap.size w W3) := by rw [hW3]; exact HB2.out.alloc HB2.out.size _
  rw [← hW3]
  clear hW3
  have HG : Hid (Calls Tryd.prog 50 #[.agg #[.int .u16 3]] W3 fun e w' => ∃ ao cap, e = .returned (.slice ao 18 cap) ∧ Row W3 w' ao cap (gL 3)) := by
    have := encGreeting 3 W3 (by decide)
    rw [gL3_len] at this
    exact this
  refine HG.out.mono ?_
  rintro e w4 ⟨ao4, cap4, rfl, hr⟩
  have hb4 : Below w.heap.size w w4 := HB3.out.trans (hr.bel.mono HB3.out.size)
  have HN : Hid (Calls Tryd.prog 51 #[.int .i64 1, .int .u32 7] w4 fun e w' => e = .returned (.string ⟨#[103, 111]⟩) ∧ Below w4.heap.size w4 w') := by
    have := wname_any 1 7 w4 (HTb.out.later hb4)
    rw [show nameOf 1 7 = ⟨#[103, 111]⟩ by kernel_rfl] at this
    exact this
  have HB4 : Hid (Below w.heap.size w w4) := hb4
  clear hr hb4 HG HB3 HB2
  go_wp2_with fail
  refine HN.out.mono ?_
  rintro e w5 ⟨rfl, hb⟩
  have HB5 : Hid (Below w.heap.size w w5) := HB4.out.trans (hb.mono HB4.out.size)
  clear hb HN
  go_wp2
  go_ret
  exact ⟨rfl, HB5.out⟩
end Go.Proofs.YtjikibhhhchgeaaDoor
