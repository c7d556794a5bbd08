import Derived.Test.YtjikibhhhchgeaaDoorJT
import Derived.Test.YtjikibhhhchgeaaDoorJK
import Derived.Test.YtjikibhhhchgeaaDoorJG
import Derived.Test.YtjikibhhhchgeaaDoorJM
import Derived.Test.YtjikibhhhchgeaaDoorPX
namespace Go.Proofs.YtjikibhhhchgeaaDoor
open Go.RowKit Go.Maps Go.Shelf
attribute [local go_sem] Oper.semAt_some
set_option linter.unusedVariables false
set_option linter.unusedSimpArgs false
set_option maxRecDepth 100000

theorem results_cell1 {fn : Func} {p : Tmp} {tp : TypeId} (h : fn.results = #[.cell p tp]) (tmps : Array Value) (P : Program) (w : World) :
    (results fn tmps).run P w = ((asAddr (tmps.getD p undef)).run P w).andThen fun a w₁ => (loadVar tp a).run P w₁ := by
  simp only [results, h]
  simp [Sem.run_bind, Result.andThen]
theorem results_cell2 {fn : Func} {p q : Tmp} {tp tq : TypeId} (h : fn.results = #[.cell p tp, .cell q tq]) (tmps : Array Value) (P : Program) (w : World) :
    (results fn tmps).run P w = ((asAddr (tmps.getD p undef)).run P w).andThen fun a w₁ => ((loadVar tp a).run P w₁).andThen fun v w₂ => ((asAddr (tmps.getD q undef)).run P w₂).andThen fun b w₃ => ((loadVar tq b).run P w₃).andThen fun u w₄ => .ok (.tuple #[v, u]) w₄ := by
  simp only [results, h]
  simp [Sem.run_bind, Result.andThen]
theorem load_str {w : World} {a : Addr} {x : ByteArray} (h : w.cell? a = some (.string x)) : (loadVar 9 a).run Tryd.prog w = .ok (.string x) w := by
  simp [loadVar, go_sem, h]
theorem load_u32 {w : World} {a : Addr} {x : Int} (h : w.cell? a = some (.int .u32 x)) : (loadVar 24 a).run Tryd.prog w = .ok (.int .u32 x) w := by
  simp [loadVar, go_sem, h]
theorem load_bool {w : World} {a : Addr} {x : Bool} (h : w.cell? a = some (.bool x)) : (loadVar 4 a).run Tryd.prog w = .ok (.bool x) w := by
  simp [loadVar, go_sem, h]
theorem bytes_ne {p q : ByteArray} (h : p ≠ q) : (p.toList == q.toList) = false := by
  cases hb : (p.toList == q.toList)
  · rfl
  · exfalso
    apply h
    have e : p.data.toList = q.data.toList := by rw [← ByteArray.toList_eq, ← ByteArray.toList_eq]; simpa using hb
    cases p; cases q
    simp only at e
    rw [Array.toList_inj] at e
    rw [e]
theorem asAddr_some {P : Program} (a : Addr) (w : World) : (asAddr (.pointer (some a))).run P w = .ok a w := rfl
/-- a box of cells stays -/
theorem cells_own {B b : Nat} {cs : Array Value} {t : TypeId} {fr : Nat × Nat} : OwnFrom B (fun (_ : Unit) W => W.heap[b]? = some (.cells cs t fr)) := fun s A A' row h hg hr => by
  have hlt := (Array.getElem?_eq_some_iff.1 h).1
  refine (hg.block b hlt ?_).trans h
  intro e
  obtain ⟨_, o, ho, hc⟩ := hr b e.symm
  rw [h] at ho
  cases ho
  simp [Obj.isCells] at hc
theorem kpT_b {w : World} (hT : 1 < w.heap.size) (W : World) (l : Nat) (o o' : Obj) (hl : w.heap.size ≤ l) (_ : W.heap[l]? = some o) (_ : o.isCells = false) (_ : o.isWalk = false) : KpT W (W.putObj l o') := World.putObj_heap_other (by omega)
/-- which row a name or a number is asked of -/
def hitN (T : Int) (n : Nat) (x : Rw) : Bool := decide ((x.t : Int) = T) && decide (x.n = n)
def hitS (T : Int) (s : ByteArray) (x : Rw) : Bool := decide ((x.t : Int) = T) && decide (bstr x.s = s)
def nameOf (T : Int) (n : Nat) : ByteArray := match allL.find? (hitN T n) with | some x => bstr x.s | none => ⟨#[]⟩
def numOf (T : Int) (s : ByteArray) : Nat × Bool := match allL.find? (hitS T s) with | some x => (x.n, true) | none => (0, false)
theorem find_at {α : Type} (p : α → Bool) : ∀ (pre : List α) (x : α) (rest : List α), (∀ y ∈ pre, p y = false) → p x = true → (pre ++ [x] ++ rest).find? p = some x
  | [], x, rest, _, h => by simp [h]
  | y :: pre, x, rest, h, hx => by
    have h1 := h y (.head _)
    have := find_at p pre x rest (fun z hz => h z (.tail _ hz)) hx
    simp only [List.cons_append, List.find?_cons, h1]
    exact this
theorem find_none {α : Type} (p : α → Bool) (l : List α) (h : ∀ y ∈ l, p y = false) : l.find? p = none := List.find?_eq_none.2 fun y hy => by rw [h y hy]; simp
theorem load_one {w : World} {a : Addr} {x : ByteArray} (h : w.cell? a = some (.string x)) :
    (((asAddr (.pointer (some a))).run Tryd.prog w).andThen fun a w₁ => (loadVar 9 a).run Tryd.prog w₁) = Result.ok (.string x) w := by
  rw [asAddr_some]
  simp only [Result.andThen]
  exact load_str h
theorem load_two {w : World} {a b : Addr} {x : Int} {y : Bool} (h : w.cell? a = some (.int .u32 x)) (h' : w.cell? b = some (.bool y)) :
    (((asAddr (.pointer (some a))).run Tryd.prog w).andThen fun a w₁ => ((loadVar 24 a).run Tryd.prog w₁).andThen fun v w₂ => ((asAddr (.pointer (some b))).run Tryd.prog w₂).andThen fun b w₃ => ((loadVar 4 b).run Tryd.prog w₃).andThen fun u w₄ => Result.ok (Value.tuple #[v, u]) w₄) = Result.ok (Value.tuple #[.int .u32 x, .bool y]) w := by
  rw [asAddr_some]
  simp only [Result.andThen]
  rw [load_u32 h]
  simp only
  rw [asAddr_some]
  simp only
  rw [load_bool h']
theorem put_boxed {W : World} {b : Nat} {t : TypeId} {v : Value} (h : Boxed W b t v) (u : Value) : (W.setCell ⟨b, 0, none⟩ u).heap[b]? = some (.cells #[u] t (0, 0)) := by
  have := heap_setCell_same W b 0 #[v] t u h
  simpa using this
theorem below_setN {w W : World} {b j : Nat} {v : Value} (h : Below w.heap.size w W) (hb : w.heap.size ≤ b) : Below w.heap.size w (W.setCell ⟨b, j, none⟩ v) :=
  h.trans ⟨rfl, rfl, rfl, by simp [World.setCell], fun g hg => Below.heap_setCell _ _ _ _ (by show g ≠ b; omega)⟩
theorem cell_of_block {w w' : World} {b j : Nat} (h : w'.heap[b]? = w.heap[b]?) : w'.cell? ⟨b, j, none⟩ = w.cell? ⟨b, j, none⟩ := World.cell?_of_block (w := w) (a := ⟨b, j, none⟩) h
set_option maxHeartbeats 8000000 in
theorem wname_any (T : Int) (n : Nat) (w : World) (hT : Tb w) :
    Calls Tryd.prog 51 #[.int .i64 T, .int .u32 (n : Int)] w fun e w' => e = .returned (.string (nameOf T n)) ∧ Below w.heap.size w w' := by
  refine (callsIn_wide (n := 4)).1 ?_
  have f0 : Fence.wide.fn 51 := trivial
  have f2 : Fence.wide.fn 101 := trivial
  obtain ⟨W0, hW0⟩ : ∃ W0, W0 = (((w.alloc (.cells #[.int .i64 T] 3)).alloc (.cells #[.int .u32 (n : Int)] 24)).alloc (.cells #[.string ⟨#[]⟩] 9)) := ⟨_, rfl⟩
  have hB0 : Below w.heap.size w W0 := by rw [hW0]; exact (((Below.refl _ w).alloc (Nat.le_refl _) _).alloc (by simp) _).alloc (by simp; omega) _
  have hs0 : W0.heap.size = w.heap.size + 3 := by rw [hW0]; simp
  have x0 : Boxed W0 (w.heap.size) 3 (.int .i64 T) := by
    have h := Boxed.new w 3 (.int .i64 T)
    rw [hW0]; exact ((h).alloc _).alloc _
  have x1 : Boxed W0 (w.heap.size + 1) 24 (.int .u32 (n : Int)) := by
    have h := Boxed.new (w.alloc (.cells #[.int .i64 T] 3)) 24 (.int .u32 (n : Int))
    rw [World.size_alloc] at h
    rw [hW0]; exact (h).alloc _
  have x2 : Boxed W0 (w.heap.size + 1 + 1) 9 (.string ⟨#[]⟩) := by
    have h := Boxed.new ((w.alloc (.cells #[.int .i64 T] 3)).alloc (.cells #[.int .u32 (n : Int)] 24)) 9 (.string ⟨#[]⟩)
    rw [World.size_alloc, World.size_alloc] at h
    rw [hW0]; exact h
  have hseq := rows_seq 3 (by omega) (hT.later hB0)
  have hT1 : 1 < W0.heap.size := (hT.later hB0).lt1
  have HX : Hid (∀ W, Below W0.heap.size W0 W → Boxed W (w.heap.size) 3 (.int .i64 T) ∧ Boxed W (w.heap.size + 1) 24 (.int .u32 (n : Int)) ∧ Boxed W (w.heap.size + 1 + 1) 9 (.string ⟨#[]⟩) ∧ Below w.heap.size w W) := fun W hb => ⟨(hb.block _ (by omega)).trans x0, (hb.block _ (by omega)).trans x1, (hb.block _ (by omega)).trans x2, hB0.trans (hb.mono hB0.size)⟩
  clear x0 x1 x2 hT hB0
  refine callsIn_of_wp_marks Tryd.func51 rfl f0 ?_ rfl
  simp only [Tryd.ntmps51, List.size_toArray, List.length_cons, List.length_nil, Nat.reduceAdd, Nat.reduceSub, Array.replicate_succ, Array.replicate_zero, List.push_toArray, List.append_toArray, List.nil_append, List.cons_append]
  gi_wp2
  rw [← hW0]
  clear hW0
  refine wpIn_rangeFunc_ownH rfl (by omega) (gf := 101) (lb := #[]) rfl f2 (enters_of Tryd.func101 (by kernel_rfl) rfl)
    hseq kpT_t (kpT_b (w := W0) hT1) (Below.refl _ _) (fun _ => rfl)
    (fun pre W => Below W0.heap.size W0 W ∧ ∀ x ∈ pre, hitN T n x = false)
    (fun c pre' W => c = .ret ∧ ∃ pre x, pre' = pre ++ [x] ∧ (∀ y ∈ pre, hitN T n y = false) ∧ hitN T n x = true ∧ W.heap[w.heap.size + 1 + 1]? = some (.cells #[.string (bstr x.s)] 9 (0, 0)) ∧ Below w.heap.size w W)
    (OwnFrom.and (ownFrom_below (Nat.le_refl _) (Nat.le_refl _)) (fun _ _ _ _ h _ _ => h))
    (fun c s X Y row hs hg hr => by
      obtain ⟨e1, pre, x, e2, e3, e4, g0, e7⟩ := hs
      exact ⟨e1, pre, x, e2, e3, e4, cells_own () X Y row g0 hg hr, ownFrom_below (β := Unit) (Nat.le_refl _) (by omega) () X Y row e7 hg hr⟩)
    ⟨Below.refl _ _, fun x hx => by cases hx⟩
    (fun x a' W => ∃ b, a' = { tmps := #[.int .i64 T, .int .u32 (n : Int), .pointer (some ⟨w.heap.size, 0, none⟩), .pointer (some ⟨w.heap.size + 1, 0, none⟩), .pointer (some ⟨w.heap.size + 1 + 1, 0, none⟩), .pointer (some ⟨b, 0, none⟩), x.val, undef, undef, undef, undef, undef, undef, undef, undef, undef, undef, undef, undef], defers := [] } ∧ W0.heap.size ≤ b ∧ W.heap[b]? = some (.cells #[.int .i64 (x.t : Int), .int .u32 (x.n : Int), .string (bstr x.s)] TRow (0, 0)))
    (fun x a' s X Y row hs hg hrow => by
      obtain ⟨b, h1, h2, h3⟩ := hs
      exact ⟨b, h1, h2, cells_own () X Y row h3 hg hrow⟩)
    ?assign ?body ?done ?stop
  case assign =>
    rintro l pre x W K ⟨hB, hpre⟩ hK
    have hb2 : Below W0.heap.size W0 (W.alloc (.cells #[.int .i64 (x.t : Int), .int .u32 (x.n : Int), .string (bstr x.s)] TRow)) := hB.alloc hB.size _
    have hlt : 1 < W.heap.size := Nat.lt_of_lt_of_le hT1 hB.size
    have hsz := hB.size
    have HK2 := hK { tmps := #[.int .i64 T, .int .u32 (n : Int), .pointer (some ⟨w.heap.size, 0, none⟩), .pointer (some ⟨w.heap.size + 1, 0, none⟩), .pointer (some ⟨w.heap.size + 1 + 1, 0, none⟩), .pointer (some ⟨W.heap.size, 0, none⟩), x.val, undef, undef, undef, undef, undef, undef, undef, undef, undef, undef, undef, undef], defers := [] } (W.alloc (.cells #[.int .i64 (x.t : Int), .int .u32 (x.n : Int), .string (bstr x.s)] TRow)) ⟨by simp, fun k o hk h _ => (Below.heap_alloc _ _ _ (Array.getElem?_eq_some_iff.1 h).1).trans h⟩ (Below.heap_alloc _ _ _ hlt) ⟨hb2, hpre⟩ ⟨W.heap.size, rfl, hsz, heap_new W _⟩
    have HK3 : Hid _ := HK2
    clear hK HK2 hb2 hB hpre HX hseq
    gi_wp2
    exact HK3.out
  case body =>
    rintro l pre x a' W hl ⟨r, hr⟩ ⟨hB, hpre⟩ ⟨b, rfl, hbw, hbx⟩ hlt
    obtain ⟨y0, y1, y2, hbe⟩ := HX.out W hB
    have d0 := y0.cell
    have d1 := y1.cell
    have z0 := blk_at hbx 0
    have z1 := blk_at hbx 1
    have z2 := blk_at hbx 2
    simp at z0 z1 z2
    have HY : Hid (Boxed W (w.heap.size + 1 + 1) 9 (.string ⟨#[]⟩) ∧ Below w.heap.size w W) := ⟨y2, hbe⟩
    have HPR : Hid (∀ y ∈ pre, hitN T n y = false) := hpre
    have HBW : Hid (Below W0.heap.size W0 W) := hB
    clear y0 y1 y2 hbe hpre hB HX hseq hbx
    by_cases h1 : (x.t : Int) = T
    · by_cases h2 : x.n = n
      · have e2 : (x.n : Int) = (n : Int) := by omega
        have HH : Hid (hitN T n x = true) := by show _ = _; simp [hitN, h1, h2]
        have q2 := HY.out.1
        have k2 := q2.cell
        have g2 := q2.frozen
        gi_wp2
        refine ⟨(KeepsOthers.setCell _ _ _).from _, rfl, pre, x, rfl, HPR.out, HH.out, put_boxed q2 _, below_setN HY.out.2 (by omega)⟩
      · have e2 : ¬ ((x.n : Int) = (n : Int)) := by omega
        have e3 : ((x.n : Int) == (n : Int)) = false := by simp; omega
        have HH : Hid (hitN T n x = false) := by show _ = _; simp [hitN, h2]
        gi_wp2
        exact ⟨KeepsFrom.refl _ _, rfl, HBW.out, fun y hy => by
          rcases List.mem_append.1 hy with hy | hy
          · exact HPR.out y hy
          · simp at hy; subst hy; exact HH.out⟩
    · have e1 : ((x.t : Int) == T) = false := by simpa using h1
      have HH : Hid (hitN T n x = false) := by show _ = _; simp [hitN, h1]
      gi_wp2
      exact ⟨KeepsFrom.refl _ _, rfl, HBW.out, fun y hy => by
        rcases List.mem_append.1 hy with hy | hy
        · exact HPR.out y hy
        · simp at hy; subst hy; exact HH.out⟩
  case done =>
    rintro D ys W hD rfl ⟨hB, hno⟩ hK
    obtain ⟨y0, y1, y2, hbe⟩ := HX.out W hB
    have k2 := y2.cell
    have g2 := y2.frozen
    have hne : D ≠ w.heap.size + 1 + 1 := by omega
    have r2 : ((W.setCell ⟨w.heap.size + 1 + 1, 0, none⟩ (.string ⟨#[]⟩)).putObj D (.deferred none)).cell? ⟨w.heap.size + 1 + 1, 0, none⟩ = some (.string ⟨#[]⟩) := by rw [cell_of_block (World.putObj_heap_other (Ne.symm hne))]; exact blk_at (put_boxed y2 _) 0
    have hK2 : (W.setCell ⟨w.heap.size + 1 + 1, 0, none⟩ (.string ⟨#[]⟩)).heap[D]? = some (.deferred (some [])) := (Below.heap_setCell _ _ _ _ hne).trans hK
    have HF : Hid (Below w.heap.size w (W.setCell ⟨w.heap.size + 1 + 1, 0, none⟩ (.string ⟨#[]⟩))) := below_setN hbe (by omega)
    have HNo : Hid (nameOf T n = ⟨#[]⟩) := by show _ = _; unfold nameOf; rw [find_none (hitN T n) allL hno]
    clear y0 y1 y2 hbe hB hno HX hseq
    gi_wp2
    refine ⟨by simp, .inl ⟨_, _, rfl, run_takeDeferred hK2, ?_⟩⟩
    refine ⟨_, by rw [results_cell1 (p := 4) (tp := 9) rfl]; exact load_one r2, by rw [HNo.out], HF.out.trans (belowK_b (w := w) (Nat.le_refl _) _ D _ _ (by omega) hK2 rfl rfl)⟩
  case stop =>
    rintro D c pre' W hD ⟨rest, hrest⟩ ⟨rfl, pre, x, rfl, h1, h2, g0, hbe⟩ hK
    have hne : D ≠ w.heap.size + 1 + 1 := by omega
    have r2 : (W.putObj D (.deferred none)).cell? ⟨w.heap.size + 1 + 1, 0, none⟩ = some (.string (bstr x.s)) := by rw [cell_of_block (World.putObj_heap_other (Ne.symm hne))]; exact blk_at g0 0
    have HNo : Hid (nameOf T n = bstr x.s) := by show _ = _; unfold nameOf; rw [hrest, find_at (hitN T n) pre x rest h1 h2]
    have HF : Hid (Below w.heap.size w W) := hbe
    clear hbe g0 h1 h2 hrest HX hseq
    gi_wp2
    refine ⟨by simp, .inl ⟨_, _, rfl, run_takeDeferred hK, ?_⟩⟩
    refine ⟨_, by rw [results_cell1 (p := 4) (tp := 9) rfl]; exact load_one r2, by rw [HNo.out], HF.out.trans (belowK_b (w := w) (Nat.le_refl _) _ D _ _ (by omega) hK rfl rfl)⟩
end Go.Proofs.YtjikibhhhchgeaaDoor

namespace Go.Proofs.YtjikibhhhchgeaaDoor
open Go.RowKit
set_option linter.unusedVariables false
set_option linter.unusedSimpArgs false
set_option maxRecDepth 100000
set_option maxHeartbeats 8000000 in
theorem decOption_ok (b off cap n : Nat) (l : List Nat) (most : Nat) (c k : Nat) (w : World) (h : CRow w (some ⟨b, off, none⟩) cap l) (HN : Hid (l.length = n)) (hs : 16 ≤ n) (HX : Hid (valB ((l.drop 0).take 8) = mHave)) (HX1 : Hid (valB ((l.drop 8).take 4) = c)) (HX2 : Hid (valB ((l.drop 12).take 4) = k)) (hc4 : c < 4294967296) (hk4 : k < 4294967296) (hm4 : most < 4294967296) (hle : k ≤ most) (hfit : k ≤ n - 16) (N : Nat) (hN : 16 + k = N) (m : List Nat) (hm : (l.drop 16).take k = m) :
    Calls Tryd.prog 49 #[.slice (some ⟨b, off, none⟩) n cap, .int .u32 (most : Int)] w fun e w' => ∃ ao2 cap2, e = .returned (.tuple #[.agg #[.int .u32 (c : Int), .int .u32 (k : Int), .bool false, .slice ao2 k cap2], .int .i64 (N : Int), .int .i64 0]) ∧ w'.ownsRow w.heap.size 5 1 (.slice ao2 k cap2) k (m.map bv) ∧ Below w.heap.size w w' := by
  have hnl := h.row.len
  rw [HN.out] at hnl
  have hsl : 16 ≤ l.length := by rw [HN.out]; exact hs
  have HC : Hid (CRow w (some ⟨b, off, none⟩) cap l) := h
  obtain ⟨W0, hW0⟩ : ∃ W0, W0 = (((w.alloc (.cells #[.int .u32 0, .int .u32 0, .bool false, nilV] 111)).alloc (.cells #[.int .u32 0, .int .u32 0, .bool false, nilV] 111)).alloc (.cells #[.int .u32 0, .int .u32 0, .bool false, nilV] 111)) := ⟨_, rfl⟩
  have HO : Hid (Calls Tryd.prog 81 #[.slice (some ⟨b, off, none⟩) n cap, .int .i64 16] W0 fun e W' => ∃ r hh ao' cap' a2 c2, e = .returned (.pointer (some ⟨r, 0, none⟩)) ∧ Dec w W' (bx3 w 111 #[.int .u32 0, .int .u32 0, .bool false, nilV] #[.int .u32 0, .int .u32 0, .bool false, nilV] #[.int .u32 0, .int .u32 0, .bool false, nilV]) W0.heap.size r hh ao' cap' (l.take 16) 0 (.slice (some a2) (n - 16) c2) 0 16 0 ∧ n - 16 ≤ c2 ∧ c2 ≤ 9223372036854775807 ∧ (n - 16 ≠ 0 → a2 = ⟨b, off + 16, none⟩)) := by
    rw [hW0]; exact open_ok b off cap n 16 l (bx3_bel w _ _ _) (bx3_new w _ _ _ _) (bx3_nd w _ _ _ _) (h.later (bx3_bel w _ _ _)) HN hs (by decide) (by decide)
  clear h
  go_enter Tryd.func49, Tryd.ntmps49
  go_wp2
  refine wp_scope_jumps 0 (fun _ _ => False) (fun _ _ => 0) rfl ?first ?pass
  case first =>
    go_wp2_with fail
    rw [← hW0]
    clear hW0
    refine HO.out.mono ?_
    rintro e W1 ⟨r, hh, ao', cap', a2, c2, rfl, h1, hc1, hc2, ha2⟩
    have H1 : Hid _ := h1
    have HA : Hid _ := ha2
    clear h1 HO ha2
    go_wp2_with fail
    refine (rx_u64 H1.out mHave HX.out (by decide) hsl).mono ?_
    rintro e W2 ⟨rfl, hx⟩
    have H2 : Hid _ := hx
    clear hx H1
    go_wp2_with fail
    refine (magic_ok H2.out mHave).mono ?_
    rintro e W3 ⟨rfl, hx⟩
    have H3 : Hid _ := hx
    clear hx H2
    go_wp2_with fail
    refine (rx_u32 H3.out c HX1.out (by decide) hsl).mono ?_
    rintro e W4 ⟨rfl, hx⟩
    have H4 : Hid _ := hx
    clear hx H3
    go_wp2_with fail
    refine (rx_u32 H4.out k HX2.out (by decide) hsl).mono ?_
    rintro e W5 ⟨rfl, hx⟩
    have H5 : Hid _ := hx
    clear hx H4
    obtain ⟨s0, u0⟩ := H5.out.b (.tail _ (.tail _ (.head _))) 0
    simp at s0
    obtain ⟨s1, u1⟩ := H5.out.b (.tail _ (.tail _ (.head _))) 1
    simp at s1
    go_wp2_with fail
    replace H5 : Hid _ := H5.out.putS 0 (.int .u32 (c : Int)) #[.int .u32 (c : Int), .int .u32 0, .bool false, nilV] rfl
    replace H5 : Hid _ := H5.out.putS 1 (.int .u32 (k : Int)) #[.int .u32 (c : Int), .int .u32 (k : Int), .bool false, nilV] rfl
    refine (measure_rest H5.out (by decide) (by omega) k most hm4 hle N hN).mono ?_
    rintro e W6 hx
    have HX9 : Hid _ := hx
    clear hx H5 s0 u0 s1 u1
    rcases HX9.out with ⟨hx, _⟩ | ⟨_, rfl, hx⟩
    · omega
    have H6 : Hid _ := hx
    clear hx HX9
    have r4 := H6.out.lb.ce
    have hml : m.length = k := by rw [← hm, List.length_take, List.length_drop, HN.out]; omega
    have hmt : ∀ x ∈ m, x < 256 := fun x hx => HC.out.row.lt x (by rw [← hm] at hx; exact List.mem_of_mem_drop (List.mem_of_mem_take hx))
    have HDt : Hid (∀ q, Calls Tryd.prog 87 #[.pointer (some ⟨r, 0, none⟩)] (W6.drewN q) fun e W' => ∃ ao2 cap2, e = .returned (.slice ao2 k cap2) ∧ W'.ownsRow W6.heap.size 5 1 (.slice ao2 k cap2) k (m.map bv) ∧ Below W6.heap.size (W6.drewN q) W' ∧ Dec w W' (bx3 w 111 #[.int .u32 0, .int .u32 0, .bool false, nilV] #[.int .u32 0, .int .u32 0, .bool false, nilV] #[.int .u32 (c : Int), .int .u32 (k : Int), .bool false, nilV]) W0.heap.size r hh ao' cap' (l.take 16) (0 + 8 + 4 + 4) (.slice (some a2) (n - 16) c2) ((k : Nat) : Int) (N : Int) 0) := fun q => data_any (len := k) (H6.out.drewN q) m hml hmt (by rw [← hm]; exact tail_news HC.out (H6.out.drewN q).bel (by rw [HN.out]; exact HA.out)) (by omega) hc1 (by omega) hc2
    have HB : Hid (w.heap.size + 1 + 1 < W6.heap.size) := by show _ < _; have h1 := block_lt H6.out.rd; have h2 := H6.out.hr; have h3 : w.heap.size + 1 + 1 < _ := (H6.out.box _ (.tail _ (.tail _ (.head _)))).2.2; omega
    obtain ⟨s2, u2⟩ := H6.out.b (.tail _ (.tail _ (.head _))) 2
    simp at s2
    obtain ⟨s3, u3⟩ := H6.out.b (.tail _ (.tail _ (.head _))) 3
    simp at s3
    clear H6 HX HX1 HX2 HN HC hml hmt HA
    go_wp2
    go_region_with (go_at_call 87; refine (HDt.out _).mono ?_; rintro e W7 ⟨ao2, cap2, rfl, ho, hb, h9⟩; have H7 : Hid _ := h9; have HR : Hid (W7.ownsRow W6.heap.size 5 1 (.slice ao2 k cap2) k (m.map bv)) := ho; clear h9 ho hb; have r4' := H7.out.lb.ce; obtain ⟨q2, w2⟩ := H7.out.b (.tail _ (.tail _ (.head _))) 2; obtain ⟨q3, w3⟩ := H7.out.b (.tail _ (.tail _ (.head _))) 3; simp at q2 q3)
    all_goals
      clear s2 u2 s3 u3 r4 r4' q2 w2 q3 w3
      obtain ⟨c10, f10⟩ := H7.out.b (.tail _ (.head _)) 0
      obtain ⟨c20, f20⟩ := H7.out.b (.tail _ (.tail _ (.head _))) 0
      obtain ⟨c11, f11⟩ := H7.out.b (.tail _ (.head _)) 1
      obtain ⟨c21, f21⟩ := H7.out.b (.tail _ (.tail _ (.head _))) 1
      obtain ⟨c12, f12⟩ := H7.out.b (.tail _ (.head _)) 2
      obtain ⟨c22, f22⟩ := H7.out.b (.tail _ (.tail _ (.head _))) 2
      obtain ⟨c13, f13⟩ := H7.out.b (.tail _ (.head _)) 3
      obtain ⟨c23, f23⟩ := H7.out.b (.tail _ (.tail _ (.head _))) 3
      simp at c10 c20 c11 c21 c12 c22 c13 c23
      go_wp2
      go_step3
      have HF : Hid _ := ((((((H7.out.putS 2 (.bool false) #[.int .u32 (c : Int), .int .u32 (k : Int), .bool false, nilV] rfl).putS 3 (.slice ao2 k cap2) #[.int .u32 (c : Int), .int .u32 (k : Int), .bool false, .slice ao2 k cap2] rfl).putO 0 (.int .u32 (c : Int)) #[.int .u32 (c : Int), .int .u32 0, .bool false, nilV] rfl).putO 1 (.int .u32 (k : Int)) #[.int .u32 (c : Int), .int .u32 (k : Int), .bool false, nilV] rfl).putO 2 (.bool false) #[.int .u32 (c : Int), .int .u32 (k : Int), .bool false, nilV] rfl).putO 3 (.slice ao2 k cap2) #[.int .u32 (c : Int), .int .u32 (k : Int), .bool false, .slice ao2 k cap2] rfl)
      have HW : Hid ((((((((W7.setCell ⟨w.heap.size + 1 + 1, 2, none⟩ (.bool false)).setCell ⟨w.heap.size + 1 + 1, 3, none⟩ (.slice ao2 k cap2)).setCell ⟨w.heap.size + 1, 0, none⟩ (.int .u32 (c : Int))).setCell ⟨w.heap.size + 1, 1, none⟩ (.int .u32 (k : Int))).setCell ⟨w.heap.size + 1, 2, none⟩ (.bool false)).setCell ⟨w.heap.size + 1, 3, none⟩ (.slice ao2 k cap2))).ownsRow W6.heap.size 5 1 (.slice ao2 k cap2) k (m.map bv)) := setAll_owns [(w.heap.size + 1 + 1, 2, .bool false), (w.heap.size + 1 + 1, 3, .slice ao2 k cap2), (w.heap.size + 1, 0, .int .u32 (c : Int)), (w.heap.size + 1, 1, .int .u32 (k : Int)), (w.heap.size + 1, 2, .bool false), (w.heap.size + 1, 3, .slice ao2 k cap2)] W7 HR.out (by have := HB.out; simp; omega)
      clear HR H7 c10 f10 c20 f20 c11 f11 c21 f21 c12 f12 c22 f22 c13 f13 c23 f23
      generalize ((((((W7.setCell ⟨w.heap.size + 1 + 1, 2, none⟩ (.bool false)).setCell ⟨w.heap.size + 1 + 1, 3, none⟩ (.slice ao2 k cap2)).setCell ⟨w.heap.size + 1, 0, none⟩ (.int .u32 (c : Int))).setCell ⟨w.heap.size + 1, 1, none⟩ (.int .u32 (k : Int))).setCell ⟨w.heap.size + 1, 2, none⟩ (.bool false)).setCell ⟨w.heap.size + 1, 3, none⟩ (.slice ao2 k cap2)) = Wx at *
      have hn1 : ¬ (w.heap.size = r) := (HF.out.lb.box _ (.head _)).2.2
      have hn2 : ¬ (r = w.heap.size) := fun e => hn1 e.symm
      have r3 := HF.out.lb.cn
      have r4 := HF.out.lb.ce
      obtain ⟨c00, f00⟩ := HF.out.b (.head _) 0
      obtain ⟨c10, f10⟩ := HF.out.b (.tail _ (.head _)) 0
      obtain ⟨c01, f01⟩ := HF.out.b (.head _) 1
      obtain ⟨c11, f11⟩ := HF.out.b (.tail _ (.head _)) 1
      obtain ⟨c02, f02⟩ := HF.out.b (.head _) 2
      obtain ⟨c12, f12⟩ := HF.out.b (.tail _ (.head _)) 2
      obtain ⟨c03, f03⟩ := HF.out.b (.head _) 3
      obtain ⟨c13, f13⟩ := HF.out.b (.tail _ (.head _)) 3
      simp at c00 c10 c01 c11 c02 c12 c03 c13
      go_wp2
      go_region
      all_goals
        go_wp2
        rw [jump_ret]
        have HW2 := setAll_owns [(w.heap.size, 0, .int .u32 (c : Int)), (w.heap.size, 1, .int .u32 (k : Int)), (w.heap.size, 2, .bool false), (w.heap.size, 3, .slice ao2 k cap2)] Wx HW.out (by have := HB.out; simp; omega)
        have HB2 := below_drew (setAll_below [(w.heap.size, 0, .int .u32 (c : Int)), (w.heap.size, 1, .int .u32 (k : Int)), (w.heap.size, 2, .bool false), (w.heap.size, 3, .slice ao2 k cap2)] Wx HF.out.bel (by simp))
        exact bodyPost_ret (results_cell_tmp2 rfl _ _ w.heap.size 111 #[.int .u32 (c : Int), .int .u32 (k : Int), .bool false, .slice ao2 k cap2] (0, 0) _ rfl (put_box (put_box (put_box (put_box (HF.out.box _ (.head _)).1 0 (.int .u32 (c : Int)) rfl) 1 (.int .u32 (k : Int)) rfl) 2 (.bool false) rfl) 3 (.slice ao2 k cap2) rfl) Tryd.underlying111 rfl infoOpt) rfl ⟨_, _, rfl, owns_mono HW2 (by have := HB.out; omega), HB2⟩
  case pass =>
    rintro a W hf
    exact hf.elim
end Go.Proofs.YtjikibhhhchgeaaDoor

namespace Go.Proofs.YtjikibhhhchgeaaDoor
open Go.RowKit
set_option linter.unusedVariables false
set_option linter.unusedSimpArgs false
set_option maxRecDepth 100000

set_option maxHeartbeats 400000 in
theorem num_any (e : Int) (w : World) : Calls Tryd.prog 12 #[.int .i64 e] w fun r w' => r = .returned (.int .i64 e) ∧ w' = w := by
  go_enter Tryd.func12, Tryd.ntmps12
  go_wp2
  go_ret
  exact ⟨rfl, rfl⟩
theorem oL3_len : (oL 3 []).length = 16 := by decide
theorem gL3_len : (gL 3).length = 18 := by decide
theorem brow_nil (w : World) : BRow w none 0 [] := ⟨by simp, by simp, fun _ => ⟨rfl, rfl⟩, fun h => absurd rfl h⟩
set_option maxHeartbeats 4000000 in
theorem alive_any (w : World) (hT : Tb w) : Calls Tryd.prog 10 #[] w fun e w' => e = .returned (.bool true) ∧ Below w.heap.size w w' := by
  have HE : Hid (Calls Tryd.prog 48 #[.agg #[.int .u32 3, .int .u32 0, .bool false, .slice none 0 0]] w fun e w' => ∃ ao cap, e = .returned (.tuple #[.slice ao 16 cap, .int .i64 0]) ∧ Row w w' ao cap (oL 3 [])) := by
    have := encOption 3 none 0 [] w (by decide) (brow_nil w) (by simp) (by simp)
    rw [oL3_len] at this
    exact this
  have HTb : Hid (Tb w) := hT
  have HNum : Hid (∀ (e : Int) (w : World), Calls Tryd.prog 12 #[.int .i64 e] w fun r w' => r = .returned (.int .i64 e) ∧ w' = w) := num_any
  clear hT
  go_enter Tryd.func10, Tryd.ntmps10
  go_wp2_with fail
  refine HE.out.mono ?_
  rintro e w1 ⟨ao, cap, rfl, hr⟩
  have hc := hr.crow (by rw [oL3_len]; decide)
  have hb1 := hr.bel
  obtain ⟨b, off, rfl⟩ := hc.some (by rw [oL3_len]; decide)
  have HD : Hid (Calls Tryd.prog 49 #[.slice (some ⟨b, off, none⟩) 16 cap, .int .u32 0] w1 fun e w' => ∃ ao2 cap2, e = .returned (.tuple #[.agg #[.int .u32 3, .int .u32 0, .bool false, .slice ao2 0 cap2], .int .i64 16, .int .i64 0]) ∧ Below w1.heap.size w1 w') :=
    (decOption_ok b off cap 16 (oL 3 []) 0 3 0 w1 hc oL3_len (by decide) (by show valB _ = _; decide) (by show valB _ = _; decide) (by show valB _ = _; decide) (by decide) (by decide) (by decide) (by decide) (by decide) 16 rfl [] (by simp)).mono fun e w' ⟨ao2, cap2, he, _, hb⟩ => ⟨ao2, cap2, he, hb⟩
  have HB1 : Hid (Below w.heap.size w w1) := hb1
  clear hr hc hb1 HE
  go_wp2_with fail
  refine HD.out.mono ?_
  rintro e w2 ⟨ao2, cap2, rfl, hb⟩
  have HB2 : Hid (Below w.heap.size w w2) := HB1.out.trans (hb.mono HB1.out.size)
  clear hb HD HB1
  go_wp2_with (first | (go_at_call 12; refine (HNum.out _ _).mono ?_; rintro e w9 ⟨rfl, rfl⟩))
  obtain ⟨W3, hW3⟩ : ∃ W3, W3 = w2.alloc (.cells #[.int .u32 3, .int .u32 0, .bool false, .slice ao2 0 cap2] 111) := ⟨_, rfl⟩
  have HB3 : Hid (Below w.heap.size w W3) := by rw [hW3]; exact HB2.out.alloc HB2.out.size _
  rw [← hW3]
  clear hW3
  have HG : Hid (Calls Tryd.prog 50 #[.agg #[.int .u16 3]] W3 fun e w' => ∃ ao cap, e = .returned (.slice ao 18 cap) ∧ Row W3 w' ao cap (gL 3)) := by
    have := encGreeting 3 W3 (by decide)
    rw [gL3_len] at this
    exact this
  refine HG.out.mono ?_
  rintro e w4 ⟨ao4, cap4, rfl, hr⟩
  have hb4 : Below w.heap.size w w4 := HB3.out.trans (hr.bel.mono HB3.out.size)
  have HN : Hid (Calls Tryd.prog 51 #[.int .i64 1, .int .u32 7] w4 fun e w' => e = .returned (.string ⟨#[103, 111]⟩) ∧ Below w4.heap.size w4 w') := by
    have := wname_any 1 7 w4 (HTb.out.later hb4)
    rw [show nameOf 1 7 = ⟨#[103, 111]⟩ by kernel_rfl] at this
    exact this
  have HB4 : Hid (Below w.heap.size w w4) := hb4
  clear hr hb4 HG HB3 HB2
  go_wp2_with fail
  refine HN.out.mono ?_
  rintro e w5 ⟨rfl, hb⟩
  have HB5 : Hid (Below w.heap.size w w5) := HB4.out.trans (hb.mono HB4.out.size)
  clear hb HN
  go_wp2
  go_ret
  exact ⟨rfl, HB5.out⟩
end Go.Proofs.YtjikibhhhchgeaaDoor

namespace Go.Proofs.YtjikibhhhchgeaaDoor
open Go.RowKit
set_option linter.unusedVariables false
set_option linter.unusedSimpArgs false
set_option maxRecDepth 100000

/-- has a request a payload? -/
def payB (f t : Nat) (ext : Bool) : Bool := if ext = true then (bits .and .u16 (f : Int) 32 != 0) else ((t : Int) == 1)
/-- may a request be laid down? -/
def fitB (f t n k : Nat) (ext : Bool) : Bool := (ext || decide (n ≤ 4294967295)) && (if payB f t ext = true then decide (n = k) else decide (k = 0))
end Go.Proofs.YtjikibhhhchgeaaDoor

namespace Go.Proofs.YtjikibhhhchgeaaDoor
open Go.RowKit
set_option linter.unusedVariables false
set_option linter.unusedSimpArgs false
set_option maxRecDepth 100000

set_option maxHeartbeats 2000000 in
theorem encChunk_true (f t c o : Nat) (ao : Option Addr) (cap : Nat) (d : List Nat) (w : World) (hf : f < 65536) (ht : t < 65536) (hc : c < 18446744073709551616) (ho : o < 18446744073709551616) (hd : BRow w ao cap d) (hn : d.length ≤ 1099511627776) :
    Calls Tryd.prog 27 #[.agg #[.int .u16 (f : Int), .int .u16 (t : Int), .int .u64 (c : Int), .int .u64 (o : Int), .slice ao d.length cap], .bool true] w fun e w' => ∃ ao cap, e = .returned (.slice ao (cL64 f t c o d).length cap) ∧ Row w w' ao cap (cL64 f t c o d) := by
  have hn0 := hn
  replace hd : Hid (BRow w ao cap d) := hd
  replace hn : Hid (d.length ≤ 1099511627776) := hn
  have hwl : IntKind.u64.wrap (d.length : Int) = (d.length : Int) := by rw [IntKind.wrap_u64]; omega
  obtain ⟨W0, hW0⟩ : ∃ W0, W0 = w.alloc (.cells #[.int .u16 (f : Int), .int .u16 (t : Int), .int .u64 (c : Int), .int .u64 (o : Int), .slice ao d.length cap] 85) := ⟨_, rfl⟩
  have hB0 : Below w.heap.size w W0 := by rw [hW0]; exact (Below.refl _ _).alloc (Nat.le_refl _) _
  have g0 : W0.heap[w.heap.size]? = some (.cells #[.int .u16 (f : Int), .int .u16 (t : Int), .int .u64 (c : Int), .int .u64 (o : Int), .slice ao d.length cap] 85 (0, 0)) := by rw [hW0]; exact heap_new w _
  have HRh : Hid (∀ W : World, Calls Tryd.prog 77 #[.bool true] W fun e W' => e = .returned (.tuple #[.int .u32 (mChunk64 : Nat), .int .i64 32]) ∧ W' = W) := fun W => by
    go_enter Tryd.func77, Tryd.ntmps77
    go_wp2
    go_ret2
    exact ⟨rfl, rfl⟩
  go_enter Tryd.func27, Tryd.ntmps27
  go_wp2_with fail
  rw [← hW0]
  clear hW0
  refine (HRh.out _).mono ?_
  rintro e W9 ⟨rfl, hw⟩
  rw [hw]; clear hw HRh
  have hBa : Hid (Below w.heap.size w W0) := hB0
  have ga : Hid (W0.heap[w.heap.size]? = some (.cells #[.int .u16 (f : Int), .int .u16 (t : Int), .int .u64 (c : Int), .int .u64 (o : Int), .slice ao d.length cap] 85 (0, 0))) := g0
  clear hB0 g0
  go_wp2_with fail
  have h0 : Enc w (W0.alloc (.cells #[.bool true, .slice none 0 0] 189)) w.heap.size W0.heap.size (.slice none 0 0) [] (.cells #[.int .u16 (f : Int), .int .u16 (t : Int), .int .u64 (c : Int), .int .u64 (o : Int), .slice ao d.length cap] 85) := Enc.new hBa.out ga.out
  refine (newWriter_any W0).mono ?_
  rintro e w1 ⟨rfl, rfl⟩
  generalize W0.alloc (.cells #[.bool true, .slice none 0 0] 189) = W1 at *
  generalize W0.heap.size = p at *
  have H1 : Hid _ := h0
  clear h0 hBa ga
  go_wp2_with fail
  refine (wu32_any w.heap.size p mChunk64 _ _ W1 H1.out.ok (by decide) (by simp [bigTo_length, nL_length] <;> omega) H1.out.hB).mono ?_
  rintro e W2 ⟨rfl, v2, hp⟩
  have H2 : Hid _ := H1.out.step hp
  clear hp H1
  have c0 := H2.out.c 0
  simp at c0
  go_wp2_with fail
  refine (wu16_any w.heap.size p f v2 _ W2 H2.out.ok hf (by simp [bigTo_length, nL_length] <;> omega) H2.out.hB).mono ?_
  rintro e W3 ⟨rfl, v3, hp⟩
  have H3 : Hid _ := H2.out.step hp
  clear hp H2 c0
  have c1 := H3.out.c 1
  simp at c1
  go_wp2_with fail
  refine (wu16_any w.heap.size p t v3 _ W3 H3.out.ok ht (by simp [bigTo_length, nL_length] <;> omega) H3.out.hB).mono ?_
  rintro e W4 ⟨rfl, v4, hp⟩
  have H4 : Hid _ := H3.out.step hp
  clear hp H3 c1
  have c2 := H4.out.c 2
  simp at c2
  go_wp2_with fail
  refine (wu64_any w.heap.size p c v4 _ W4 H4.out.ok hc (by simp [bigTo_length, nL_length] <;> omega) H4.out.hB).mono ?_
  rintro e W5 ⟨rfl, v5, hp⟩
  have H5 : Hid _ := H4.out.step hp
  clear hp H4 c2
  have c3 := H5.out.c 3
  simp at c3
  go_wp2_with fail
  refine (wu64_any w.heap.size p o v5 _ W5 H5.out.ok ho (by simp [bigTo_length, nL_length] <;> omega) H5.out.hB).mono ?_
  rintro e W6 ⟨rfl, v6, hp⟩
  have H6 : Hid _ := H5.out.step hp
  clear hp H5 c3
  have c4 := H6.out.c 4
  simp at c4
  go_wp2_with fail
  refine (lay_any w.heap.size p d.length true v6 _ W6 H6.out.ok (by omega) (by simp [bigTo_length, nL_length] <;> omega) H6.out.hB).mono ?_
  rintro e W7 ⟨rfl, v7, hp⟩
  have H7 : Hid _ := H6.out.step hp
  clear hp H6 c4
  have c4 := H7.out.c 4
  simp at c4
  go_wp2_with fail
  refine (wraw_any w.heap.size p v7 _ d ao cap d.length W7 H7.out.ok (hd.out.later H7.out.bel) rfl (by have := hn.out; simp [bigTo_length, nL_length] <;> omega) H7.out.hB).mono ?_
  rintro e W8 ⟨rfl, v8, hp⟩
  have H8 : Hid _ := H7.out.step hp
  clear hp H7 c4
  go_wp2_with fail
  refine (wout_any w.heap.size p v8 _ W8 H8.out.ok (by have := hn.out; simp [bigTo_length, nL_length] <;> omega)).mono ?_
  rintro e W9 ⟨ao', cap', he, ho, hb⟩
  have H9 : Hid _ := H8.out.out ho hb
  clear ho hb H8
  obtain ⟨m, hm⟩ : ∃ m, m = (cL64 f t c o d).length := ⟨_, rfl⟩
  obtain rfl : e = .returned (.slice ao' m cap') := by rw [hm]; exact he
  have HM : Hid (m = (cL64 f t c o d).length) := hm
  clear hm he
  go_wp2
  go_ret
  exact ⟨_, _, by rw [← HM.out]; rfl, H9.out⟩
set_option maxHeartbeats 2000000 in
theorem encChunk_false (f t c o : Nat) (ao : Option Addr) (cap : Nat) (d : List Nat) (w : World) (hf : f < 65536) (ht : t < 65536) (hc : c < 18446744073709551616) (ho : o < 18446744073709551616) (hd : BRow w ao cap d) (hn : d.length ≤ 1099511627776) :
    Calls Tryd.prog 27 #[.agg #[.int .u16 (f : Int), .int .u16 (t : Int), .int .u64 (c : Int), .int .u64 (o : Int), .slice ao d.length cap], .bool false] w fun e w' => ∃ ao cap, e = .returned (.slice ao (cL f t c d).length cap) ∧ Row w w' ao cap (cL f t c d) := by
  have hn0 := hn
  replace hd : Hid (BRow w ao cap d) := hd
  replace hn : Hid (d.length ≤ 1099511627776) := hn
  have hwl : IntKind.u64.wrap (d.length : Int) = (d.length : Int) := by rw [IntKind.wrap_u64]; omega
  obtain ⟨W0, hW0⟩ : ∃ W0, W0 = w.alloc (.cells #[.int .u16 (f : Int), .int .u16 (t : Int), .int .u64 (c : Int), .int .u64 (o : Int), .slice ao d.length cap] 85) := ⟨_, rfl⟩
  have hB0 : Below w.heap.size w W0 := by rw [hW0]; exact (Below.refl _ _).alloc (Nat.le_refl _) _
  have g0 : W0.heap[w.heap.size]? = some (.cells #[.int .u16 (f : Int), .int .u16 (t : Int), .int .u64 (c : Int), .int .u64 (o : Int), .slice ao d.length cap] 85 (0, 0)) := by rw [hW0]; exact heap_new w _
  have HRh : Hid (∀ W : World, Calls Tryd.prog 77 #[.bool false] W fun e W' => e = .returned (.tuple #[.int .u32 (mChunk : Nat), .int .i64 20]) ∧ W' = W) := fun W => by
    go_enter Tryd.func77, Tryd.ntmps77
    go_wp2
    go_ret2
    exact ⟨rfl, rfl⟩
  go_enter Tryd.func27, Tryd.ntmps27
  go_wp2_with fail
  rw [← hW0]
  clear hW0
  refine (HRh.out _).mono ?_
  rintro e W9 ⟨rfl, hw⟩
  rw [hw]; clear hw HRh
  have hBa : Hid (Below w.heap.size w W0) := hB0
  have ga : Hid (W0.heap[w.heap.size]? = some (.cells #[.int .u16 (f : Int), .int .u16 (t : Int), .int .u64 (c : Int), .int .u64 (o : Int), .slice ao d.length cap] 85 (0, 0))) := g0
  clear hB0 g0
  go_wp2_with fail
  have h0 : Enc w (W0.alloc (.cells #[.bool true, .slice none 0 0] 189)) w.heap.size W0.heap.size (.slice none 0 0) [] (.cells #[.int .u16 (f : Int), .int .u16 (t : Int), .int .u64 (c : Int), .int .u64 (o : Int), .slice ao d.length cap] 85) := Enc.new hBa.out ga.out
  refine (newWriter_any W0).mono ?_
  rintro e w1 ⟨rfl, rfl⟩
  generalize W0.alloc (.cells #[.bool true, .slice none 0 0] 189) = W1 at *
  generalize W0.heap.size = p at *
  have H1 : Hid _ := h0
  clear h0 hBa ga
  go_wp2_with fail
  refine (wu32_any w.heap.size p mChunk _ _ W1 H1.out.ok (by decide) (by simp [bigTo_length, nL_length] <;> omega) H1.out.hB).mono ?_
  rintro e W2 ⟨rfl, v2, hp⟩
  have H2 : Hid _ := H1.out.step hp
  clear hp H1
  have c0 := H2.out.c 0
  simp at c0
  go_wp2_with fail
  refine (wu16_any w.heap.size p f v2 _ W2 H2.out.ok hf (by simp [bigTo_length, nL_length] <;> omega) H2.out.hB).mono ?_
  rintro e W3 ⟨rfl, v3, hp⟩
  have H3 : Hid _ := H2.out.step hp
  clear hp H2 c0
  have c1 := H3.out.c 1
  simp at c1
  go_wp2_with fail
  refine (wu16_any w.heap.size p t v3 _ W3 H3.out.ok ht (by simp [bigTo_length, nL_length] <;> omega) H3.out.hB).mono ?_
  rintro e W4 ⟨rfl, v4, hp⟩
  have H4 : Hid _ := H3.out.step hp
  clear hp H3 c1
  have c2 := H4.out.c 2
  simp at c2
  go_wp2_with fail
  refine (wu64_any w.heap.size p c v4 _ W4 H4.out.ok hc (by simp [bigTo_length, nL_length] <;> omega) H4.out.hB).mono ?_
  rintro e W5 ⟨rfl, v5, hp⟩
  have H5 : Hid _ := H4.out.step hp
  clear hp H4 c2
  have c4 := H5.out.c 4
  simp at c4
  go_wp2_with fail
  refine (lay_any w.heap.size p d.length false v5 _ W5 H5.out.ok (by omega) (by simp [bigTo_length, nL_length] <;> omega) H5.out.hB).mono ?_
  rintro e W6 ⟨rfl, v6, hp⟩
  have H6 : Hid _ := H5.out.step hp
  clear hp H5 c4
  have c4 := H6.out.c 4
  simp at c4
  go_wp2_with fail
  refine (wraw_any w.heap.size p v6 _ d ao cap d.length W6 H6.out.ok (hd.out.later H6.out.bel) rfl (by have := hn.out; simp [bigTo_length, nL_length] <;> omega) H6.out.hB).mono ?_
  rintro e W7 ⟨rfl, v7, hp⟩
  have H7 : Hid _ := H6.out.step hp
  clear hp H6 c4
  go_wp2_with fail
  refine (wout_any w.heap.size p v7 _ W7 H7.out.ok (by have := hn.out; simp [bigTo_length, nL_length] <;> omega)).mono ?_
  rintro e W8 ⟨ao', cap', he, ho, hb⟩
  have H8 : Hid _ := H7.out.out ho hb
  clear ho hb H7
  obtain ⟨m, hm⟩ : ∃ m, m = (cL f t c d).length := ⟨_, rfl⟩
  obtain rfl : e = .returned (.slice ao' m cap') := by rw [hm]; exact he
  have HM : Hid (m = (cL f t c d).length) := hm
  clear hm he
  go_wp2
  go_ret
  exact ⟨_, _, by rw [← HM.out]; rfl, H8.out⟩
set_option maxHeartbeats 1000000 in
theorem encOption_bad (c k : Nat) (lg : Bool) (ao : Option Addr) (cap : Nat) (d : List Nat) (w : World) (hk : k < 4294967296) (hn : d.length ≤ 1099511627776) (hbad : lg = true ∨ k ≠ d.length) :
    Calls Tryd.prog 48 #[.agg #[.int .u32 (c : Int), .int .u32 (k : Int), .bool lg, .slice ao d.length cap]] w fun e w' => e = .returned (.tuple #[.slice none 0 0, .int .i64 81]) ∧ Below w.heap.size w w' := by
  have hB0 : Hid (Below w.heap.size w (w.alloc (.cells #[.int .u32 (c : Int), .int .u32 (k : Int), .bool lg, .slice ao d.length cap] 111))) := (Below.refl _ _).alloc (Nat.le_refl _) _
  have hwl : IntKind.u64.wrap (d.length : Int) = (d.length : Int) := by rw [IntKind.wrap_u64]; omega
  cases lg with
  | true =>
    go_enter Tryd.func48, Tryd.ntmps48
    go_wp2
    go_ret2
    exact ⟨rfl, hB0.out⟩
  | false =>
    have hne : k ≠ d.length := hbad.elim (fun h => by cases h) id
    have h1 : ¬ ((k : Int) = (d.length : Int)) := by omega
    have h2 : ((k : Int) != (d.length : Int)) = true := by simp; omega
    go_enter Tryd.func48, Tryd.ntmps48
    go_wp2
    go_ret2
    exact ⟨rfl, hB0.out⟩
end Go.Proofs.YtjikibhhhchgeaaDoor

namespace Go.Proofs.YtjikibhhhchgeaaDoor
open Go.RowKit
set_option linter.unusedVariables false
set_option linter.unusedSimpArgs false
set_option maxRecDepth 100000

set_option maxHeartbeats 2000000 in
theorem rChunk_true (f t c o : Nat) (ao : Option Addr) (cap : Nat) (d : List Nat) (w : World) (hf : f < 65536) (ht : t < 65536) (hc : c < 18446744073709551616) (ho : o < 18446744073709551616) (hd : BRow w ao cap d) (hn : d.length < 4294967296) :
    Calls Tryd.prog 30 #[.agg #[.int .u16 (f : Int), .int .u16 (t : Int), .int .u64 (c : Int), .int .u64 (o : Int), .slice ao d.length cap], .bool true] w fun e w' => ∃ ao cap, e = .returned (.slice ao (cL64 f t c o d).length cap) ∧ Row w w' ao cap (cL64 f t c o d) := by
  have hwl : IntKind.u64.wrap (d.length : Int) = (d.length : Int) := by rw [IntKind.wrap_u64]; omega
  have HD : Hid (BRow w ao cap d) := hd
  obtain ⟨W0, hW0⟩ : ∃ W0, W0 = w.alloc (.cells #[.int .u16 (f : Int), .int .u16 (t : Int), .int .u64 (c : Int), .int .u64 (o : Int), .slice ao d.length cap] 85) := ⟨_, rfl⟩
  have hB0 : Below w.heap.size w W0 := by rw [hW0]; exact (Below.refl _ _).alloc (Nat.le_refl _) _
  have g0 : W0.heap[w.heap.size]? = some (.cells #[.int .u16 (f : Int), .int .u16 (t : Int), .int .u64 (c : Int), .int .u64 (o : Int), .slice ao d.length cap] 85 (0, 0)) := by rw [hW0]; exact heap_new w _
  have HLy : Hid (∀ Wa : World, Below w.heap.size w Wa → Calls Tryd.prog 88 #[.slice (some ⟨Wa.heap.size, 0, none⟩) 6 6, .slice ao d.length cap] (Wa.alloc (.cells #[.int .u64 (mChunk64 : Nat), .int .i64 4, .int .u64 (f : Nat), .int .i64 2, .int .u64 (t : Nat), .int .i64 2, .int .u64 (c : Nat), .int .i64 8, .int .u64 (o : Nat), .int .i64 8, .int .u64 (d.length : Nat), .int .i64 8] TFd)) fun e w' => ∃ ao cap, e = .returned (.slice ao (cL64 f t c o d).length cap) ∧ Row w w' ao cap (cL64 f t c o d)) := fun Wa hba => by
    have hb : Below w.heap.size w (Wa.alloc (.cells #[.int .u64 (mChunk64 : Nat), .int .i64 4, .int .u64 (f : Nat), .int .i64 2, .int .u64 (t : Nat), .int .i64 2, .int .u64 (c : Nat), .int .i64 8, .int .u64 (o : Nat), .int .i64 8, .int .u64 (d.length : Nat), .int .i64 8] TFd)) := hba.alloc hba.size _
    have h := lay_ok [(mChunk64, 4), (f, 2), (t, 2), (c, 8), (o, 8), (d.length, 8)] Wa.heap.size 6 ao cap d (Wa.alloc (.cells #[.int .u64 (mChunk64 : Nat), .int .i64 4, .int .u64 (f : Nat), .int .i64 2, .int .u64 (t : Nat), .int .i64 2, .int .u64 (c : Nat), .int .i64 8, .int .u64 (o : Nat), .int .i64 8, .int .u64 (d.length : Nat), .int .i64 8] TFd)) (heap_new Wa _) rfl (by simp [mHave, mReply, mReq, mReq64, mChunk, mChunk64] <;> omega) (by decide) (HD.out.later hb) (by omega)
    have e : layF [(mChunk64, 4), (f, 2), (t, 2), (c, 8), (o, 8), (d.length, 8)] ++ d = cL64 f t c o d := by simp [layF, oL, rL, qL, cL, cL64, nL]
    rw [e] at h
    exact h.mono fun r w' ⟨ao, cap, h1, h2⟩ => ⟨ao, cap, h1, owns_mono h2.own hb.size, h2.lt, hb.trans (h2.bel.mono hb.size)⟩
  have HL0 : Hid (Calls Tryd.prog 88 #[.slice (some ⟨w.heap.size + 1, 0, none⟩) 6 6, .slice ao d.length cap] ((w.alloc (.cells #[.int .u16 (f : Int), .int .u16 (t : Int), .int .u64 (c : Int), .int .u64 (o : Int), .slice ao d.length cap] 85)).alloc (.cells #[.int .u64 (mChunk64 : Nat), .int .i64 4, .int .u64 (f : Nat), .int .i64 2, .int .u64 (t : Nat), .int .i64 2, .int .u64 (c : Nat), .int .i64 8, .int .u64 (o : Nat), .int .i64 8, .int .u64 (d.length : Nat), .int .i64 8] TFd)) fun e w' => ∃ ao cap, e = .returned (.slice ao (cL64 f t c o d).length cap) ∧ Row w w' ao cap (cL64 f t c o d)) := by
    have := HLy.out W0 hB0
    rw [hW0, World.size_alloc] at this
    exact this
  clear hB0 g0 hW0 HLy hd
  go_enter Tryd.func30, Tryd.ntmps30
  go_wp2_with fail
  refine HL0.out.mono ?_
  rintro e w1 ⟨aq, cq, he, hr⟩
  have HR : Hid _ := hr
  obtain ⟨m, hm⟩ : ∃ m, m = (cL64 f t c o d).length := ⟨_, rfl⟩
  rw [← hm] at he
  have HM : Hid (m = (cL64 f t c o d).length) := hm
  clear hr hm
  subst he
  go_wp2
  go_ret
  exact ⟨_, _, by rw [← HM.out]; rfl, HR.out⟩
set_option maxHeartbeats 2000000 in
theorem rChunk_false (f t c o : Nat) (ao : Option Addr) (cap : Nat) (d : List Nat) (w : World) (hf : f < 65536) (ht : t < 65536) (hc : c < 18446744073709551616) (ho : o < 18446744073709551616) (hd : BRow w ao cap d) (hn : d.length < 4294967296) :
    Calls Tryd.prog 30 #[.agg #[.int .u16 (f : Int), .int .u16 (t : Int), .int .u64 (c : Int), .int .u64 (o : Int), .slice ao d.length cap], .bool false] w fun e w' => ∃ ao cap, e = .returned (.slice ao (cL f t c d).length cap) ∧ Row w w' ao cap (cL f t c d) := by
  have hwl : IntKind.u64.wrap (d.length : Int) = (d.length : Int) := by rw [IntKind.wrap_u64]; omega
  have HD : Hid (BRow w ao cap d) := hd
  obtain ⟨W0, hW0⟩ : ∃ W0, W0 = w.alloc (.cells #[.int .u16 (f : Int), .int .u16 (t : Int), .int .u64 (c : Int), .int .u64 (o : Int), .slice ao d.length cap] 85) := ⟨_, rfl⟩
  have hB0 : Below w.heap.size w W0 := by rw [hW0]; exact (Below.refl _ _).alloc (Nat.le_refl _) _
  have g0 : W0.heap[w.heap.size]? = some (.cells #[.int .u16 (f : Int), .int .u16 (t : Int), .int .u64 (c : Int), .int .u64 (o : Int), .slice ao d.length cap] 85 (0, 0)) := by rw [hW0]; exact heap_new w _
  have HLy : Hid (∀ Wa : World, Below w.heap.size w Wa → Calls Tryd.prog 88 #[.slice (some ⟨Wa.heap.size, 0, none⟩) 5 5, .slice ao d.length cap] (Wa.alloc (.cells #[.int .u64 (mChunk : Nat), .int .i64 4, .int .u64 (f : Nat), .int .i64 2, .int .u64 (t : Nat), .int .i64 2, .int .u64 (c : Nat), .int .i64 8, .int .u64 (d.length : Nat), .int .i64 4] TFd)) fun e w' => ∃ ao cap, e = .returned (.slice ao (cL f t c d).length cap) ∧ Row w w' ao cap (cL f t c d)) := fun Wa hba => by
    have hb : Below w.heap.size w (Wa.alloc (.cells #[.int .u64 (mChunk : Nat), .int .i64 4, .int .u64 (f : Nat), .int .i64 2, .int .u64 (t : Nat), .int .i64 2, .int .u64 (c : Nat), .int .i64 8, .int .u64 (d.length : Nat), .int .i64 4] TFd)) := hba.alloc hba.size _
    have h := lay_ok [(mChunk, 4), (f, 2), (t, 2), (c, 8), (d.length, 4)] Wa.heap.size 5 ao cap d (Wa.alloc (.cells #[.int .u64 (mChunk : Nat), .int .i64 4, .int .u64 (f : Nat), .int .i64 2, .int .u64 (t : Nat), .int .i64 2, .int .u64 (c : Nat), .int .i64 8, .int .u64 (d.length : Nat), .int .i64 4] TFd)) (heap_new Wa _) rfl (by simp [mHave, mReply, mReq, mReq64, mChunk, mChunk64] <;> omega) (by decide) (HD.out.later hb) (by omega)
    have e : layF [(mChunk, 4), (f, 2), (t, 2), (c, 8), (d.length, 4)] ++ d = cL f t c d := by simp [layF, oL, rL, qL, cL, cL64, nL, Nat.mod_eq_of_lt hn]
    rw [e] at h
    exact h.mono fun r w' ⟨ao, cap, h1, h2⟩ => ⟨ao, cap, h1, owns_mono h2.own hb.size, h2.lt, hb.trans (h2.bel.mono hb.size)⟩
  have HL0 : Hid (Calls Tryd.prog 88 #[.slice (some ⟨w.heap.size + 1, 0, none⟩) 5 5, .slice ao d.length cap] ((w.alloc (.cells #[.int .u16 (f : Int), .int .u16 (t : Int), .int .u64 (c : Int), .int .u64 (o : Int), .slice ao d.length cap] 85)).alloc (.cells #[.int .u64 (mChunk : Nat), .int .i64 4, .int .u64 (f : Nat), .int .i64 2, .int .u64 (t : Nat), .int .i64 2, .int .u64 (c : Nat), .int .i64 8, .int .u64 (d.length : Nat), .int .i64 4] TFd)) fun e w' => ∃ ao cap, e = .returned (.slice ao (cL f t c d).length cap) ∧ Row w w' ao cap (cL f t c d)) := by
    have := HLy.out W0 hB0
    rw [hW0, World.size_alloc] at this
    exact this
  clear hB0 g0 hW0 HLy hd
  go_enter Tryd.func30, Tryd.ntmps30
  go_wp2_with fail
  refine HL0.out.mono ?_
  rintro e w1 ⟨aq, cq, he, hr⟩
  have HR : Hid _ := hr
  obtain ⟨m, hm⟩ : ∃ m, m = (cL f t c d).length := ⟨_, rfl⟩
  rw [← hm] at he
  have HM : Hid (m = (cL f t c d).length) := hm
  clear hr hm
  subst he
  go_wp2
  go_ret
  exact ⟨_, _, by rw [← HM.out]; rfl, HR.out⟩
end Go.Proofs.YtjikibhhhchgeaaDoor

namespace Go.Proofs.YtjikibhhhchgeaaDoor
open Go.RowKit
set_option linter.unusedVariables false
set_option linter.unusedSimpArgs false
set_option maxRecDepth 100000
theorem close3 {w Wx : World} {t : TypeId} {a0 a1 a2 : Value} {B e n : Nat} {v : Value} {xs : List Value} (hbox : Wx.heap[w.heap.size]? = some (.cells #[a0, a1, a2] t (0, 0))) (hbel : Below w.heap.size w Wx) (how : Wx.ownsRow B e 1 v n xs) (hB : w.heap.size < B) (v0 v1 v2 : Value) :
    ((((Wx.setCell ⟨w.heap.size, 0, none⟩ v0).setCell ⟨w.heap.size, 1, none⟩ v1).setCell ⟨w.heap.size, 2, none⟩ v2).drew).heap[w.heap.size]? = some (.cells #[v0, v1, v2] t (0, 0)) ∧ ((((Wx.setCell ⟨w.heap.size, 0, none⟩ v0).setCell ⟨w.heap.size, 1, none⟩ v1).setCell ⟨w.heap.size, 2, none⟩ v2).drew).ownsRow B e 1 v n xs ∧ Below w.heap.size w ((((Wx.setCell ⟨w.heap.size, 0, none⟩ v0).setCell ⟨w.heap.size, 1, none⟩ v1).setCell ⟨w.heap.size, 2, none⟩ v2).drew) := by
  have h0 := hbox
  have b0 := hbel
  have o0 := how
  have h1 : (Wx.setCell ⟨w.heap.size, 0, none⟩ v0).heap[w.heap.size]? = some (.cells #[v0, a1, a2] t (0, 0)) := put_box h0 0 v0 (by simp)
  have b1 : Below w.heap.size w (Wx.setCell ⟨w.heap.size, 0, none⟩ v0) := below_set b0 (Nat.le_refl _)
  have o1 : (Wx.setCell ⟨w.heap.size, 0, none⟩ v0).ownsRow B e 1 v n xs := owns_same o0 fun g hg => Below.heap_setCell _ _ _ _ (by have := (owns_lt o0 g hg).2; show g ≠ w.heap.size; omega)
  generalize (Wx.setCell ⟨w.heap.size, 0, none⟩ v0) = Y1 at h1 b1 o1 ⊢
  have h2 : (Y1.setCell ⟨w.heap.size, 1, none⟩ v1).heap[w.heap.size]? = some (.cells #[v0, v1, a2] t (0, 0)) := put_box h1 1 v1 (by simp)
  have b2 : Below w.heap.size w (Y1.setCell ⟨w.heap.size, 1, none⟩ v1) := below_set b1 (Nat.le_refl _)
  have o2 : (Y1.setCell ⟨w.heap.size, 1, none⟩ v1).ownsRow B e 1 v n xs := owns_same o1 fun g hg => Below.heap_setCell _ _ _ _ (by have := (owns_lt o1 g hg).2; show g ≠ w.heap.size; omega)
  generalize (Y1.setCell ⟨w.heap.size, 1, none⟩ v1) = Y2 at h2 b2 o2 ⊢
  have h3 : (Y2.setCell ⟨w.heap.size, 2, none⟩ v2).heap[w.heap.size]? = some (.cells #[v0, v1, v2] t (0, 0)) := put_box h2 2 v2 (by simp)
  have b3 : Below w.heap.size w (Y2.setCell ⟨w.heap.size, 2, none⟩ v2) := below_set b2 (Nat.le_refl _)
  have o3 : (Y2.setCell ⟨w.heap.size, 2, none⟩ v2).ownsRow B e 1 v n xs := owns_same o2 fun g hg => Below.heap_setCell _ _ _ _ (by have := (owns_lt o2 g hg).2; show g ≠ w.heap.size; omega)
  generalize (Y2.setCell ⟨w.heap.size, 2, none⟩ v2) = Y3 at h3 b3 o3 ⊢
  exact ⟨h3, owns_same o3 (fun _ _ => rfl), below_drew b3⟩
theorem close4 {w Wx : World} {t : TypeId} {a0 a1 a2 a3 : Value} {B e n : Nat} {v : Value} {xs : List Value} (hbox : Wx.heap[w.heap.size]? = some (.cells #[a0, a1, a2, a3] t (0, 0))) (hbel : Below w.heap.size w Wx) (how : Wx.ownsRow B e 1 v n xs) (hB : w.heap.size < B) (v0 v1 v2 v3 : Value) :
    (((((Wx.setCell ⟨w.heap.size, 0, none⟩ v0).setCell ⟨w.heap.size, 1, none⟩ v1).setCell ⟨w.heap.size, 2, none⟩ v2).setCell ⟨w.heap.size, 3, none⟩ v3).drew).heap[w.heap.size]? = some (.cells #[v0, v1, v2, v3] t (0, 0)) ∧ (((((Wx.setCell ⟨w.heap.size, 0, none⟩ v0).setCell ⟨w.heap.size, 1, none⟩ v1).setCell ⟨w.heap.size, 2, none⟩ v2).setCell ⟨w.heap.size, 3, none⟩ v3).drew).ownsRow B e 1 v n xs ∧ Below w.heap.size w (((((Wx.setCell ⟨w.heap.size, 0, none⟩ v0).setCell ⟨w.heap.size, 1, none⟩ v1).setCell ⟨w.heap.size, 2, none⟩ v2).setCell ⟨w.heap.size, 3, none⟩ v3).drew) := by
  have h0 := hbox
  have b0 := hbel
  have o0 := how
  have h1 : (Wx.setCell ⟨w.heap.size, 0, none⟩ v0).heap[w.heap.size]? = some (.cells #[v0, a1, a2, a3] t (0, 0)) := put_box h0 0 v0 (by simp)
  have b1 : Below w.heap.size w (Wx.setCell ⟨w.heap.size, 0, none⟩ v0) := below_set b0 (Nat.le_refl _)
  have o1 : (Wx.setCell ⟨w.heap.size, 0, none⟩ v0).ownsRow B e 1 v n xs := owns_same o0 fun g hg => Below.heap_setCell _ _ _ _ (by have := (owns_lt o0 g hg).2; show g ≠ w.heap.size; omega)
  generalize (Wx.setCell ⟨w.heap.size, 0, none⟩ v0) = Y1 at h1 b1 o1 ⊢
  have h2 : (Y1.setCell ⟨w.heap.size, 1, none⟩ v1).heap[w.heap.size]? = some (.cells #[v0, v1, a2, a3] t (0, 0)) := put_box h1 1 v1 (by simp)
  have b2 : Below w.heap.size w (Y1.setCell ⟨w.heap.size, 1, none⟩ v1) := below_set b1 (Nat.le_refl _)
  have o2 : (Y1.setCell ⟨w.heap.size, 1, none⟩ v1).ownsRow B e 1 v n xs := owns_same o1 fun g hg => Below.heap_setCell _ _ _ _ (by have := (owns_lt o1 g hg).2; show g ≠ w.heap.size; omega)
  generalize (Y1.setCell ⟨w.heap.size, 1, none⟩ v1) = Y2 at h2 b2 o2 ⊢
  have h3 : (Y2.setCell ⟨w.heap.size, 2, none⟩ v2).heap[w.heap.size]? = some (.cells #[v0, v1, v2, a3] t (0, 0)) := put_box h2 2 v2 (by simp)
  have b3 : Below w.heap.size w (Y2.setCell ⟨w.heap.size, 2, none⟩ v2) := below_set b2 (Nat.le_refl _)
  have o3 : (Y2.setCell ⟨w.heap.size, 2, none⟩ v2).ownsRow B e 1 v n xs := owns_same o2 fun g hg => Below.heap_setCell _ _ _ _ (by have := (owns_lt o2 g hg).2; show g ≠ w.heap.size; omega)
  generalize (Y2.setCell ⟨w.heap.size, 2, none⟩ v2) = Y3 at h3 b3 o3 ⊢
  have h4 : (Y3.setCell ⟨w.heap.size, 3, none⟩ v3).heap[w.heap.size]? = some (.cells #[v0, v1, v2, v3] t (0, 0)) := put_box h3 3 v3 (by simp)
  have b4 : Below w.heap.size w (Y3.setCell ⟨w.heap.size, 3, none⟩ v3) := below_set b3 (Nat.le_refl _)
  have o4 : (Y3.setCell ⟨w.heap.size, 3, none⟩ v3).ownsRow B e 1 v n xs := owns_same o3 fun g hg => Below.heap_setCell _ _ _ _ (by have := (owns_lt o3 g hg).2; show g ≠ w.heap.size; omega)
  generalize (Y3.setCell ⟨w.heap.size, 3, none⟩ v3) = Y4 at h4 b4 o4 ⊢
  exact ⟨h4, owns_same o4 (fun _ _ => rfl), below_drew b4⟩
theorem close5 {w Wx : World} {t : TypeId} {a0 a1 a2 a3 a4 : Value} {B e n : Nat} {v : Value} {xs : List Value} (hbox : Wx.heap[w.heap.size]? = some (.cells #[a0, a1, a2, a3, a4] t (0, 0))) (hbel : Below w.heap.size w Wx) (how : Wx.ownsRow B e 1 v n xs) (hB : w.heap.size < B) (v0 v1 v2 v3 v4 : Value) :
    ((((((Wx.setCell ⟨w.heap.size, 0, none⟩ v0).setCell ⟨w.heap.size, 1, none⟩ v1).setCell ⟨w.heap.size, 2, none⟩ v2).setCell ⟨w.heap.size, 3, none⟩ v3).setCell ⟨w.heap.size, 4, none⟩ v4).drew).heap[w.heap.size]? = some (.cells #[v0, v1, v2, v3, v4] t (0, 0)) ∧ ((((((Wx.setCell ⟨w.heap.size, 0, none⟩ v0).setCell ⟨w.heap.size, 1, none⟩ v1).setCell ⟨w.heap.size, 2, none⟩ v2).setCell ⟨w.heap.size, 3, none⟩ v3).setCell ⟨w.heap.size, 4, none⟩ v4).drew).ownsRow B e 1 v n xs ∧ Below w.heap.size w ((((((Wx.setCell ⟨w.heap.size, 0, none⟩ v0).setCell ⟨w.heap.size, 1, none⟩ v1).setCell ⟨w.heap.size, 2, none⟩ v2).setCell ⟨w.heap.size, 3, none⟩ v3).setCell ⟨w.heap.size, 4, none⟩ v4).drew) := by
  have h0 := hbox
  have b0 := hbel
  have o0 := how
  have h1 : (Wx.setCell ⟨w.heap.size, 0, none⟩ v0).heap[w.heap.size]? = some (.cells #[v0, a1, a2, a3, a4] t (0, 0)) := put_box h0 0 v0 (by simp)
  have b1 : Below w.heap.size w (Wx.setCell ⟨w.heap.size, 0, none⟩ v0) := below_set b0 (Nat.le_refl _)
  have o1 : (Wx.setCell ⟨w.heap.size, 0, none⟩ v0).ownsRow B e 1 v n xs := owns_same o0 fun g hg => Below.heap_setCell _ _ _ _ (by have := (owns_lt o0 g hg).2; show g ≠ w.heap.size; omega)
  generalize (Wx.setCell ⟨w.heap.size, 0, none⟩ v0) = Y1 at h1 b1 o1 ⊢
  have h2 : (Y1.setCell ⟨w.heap.size, 1, none⟩ v1).heap[w.heap.size]? = some (.cells #[v0, v1, a2, a3, a4] t (0, 0)) := put_box h1 1 v1 (by simp)
  have b2 : Below w.heap.size w (Y1.setCell ⟨w.heap.size, 1, none⟩ v1) := below_set b1 (Nat.le_refl _)
  have o2 : (Y1.setCell ⟨w.heap.size, 1, none⟩ v1).ownsRow B e 1 v n xs := owns_same o1 fun g hg => Below.heap_setCell _ _ _ _ (by have := (owns_lt o1 g hg).2; show g ≠ w.heap.size; omega)
  generalize (Y1.setCell ⟨w.heap.size, 1, none⟩ v1) = Y2 at h2 b2 o2 ⊢
  have h3 : (Y2.setCell ⟨w.heap.size, 2, none⟩ v2).heap[w.heap.size]? = some (.cells #[v0, v1, v2, a3, a4] t (0, 0)) := put_box h2 2 v2 (by simp)
  have b3 : Below w.heap.size w (Y2.setCell ⟨w.heap.size, 2, none⟩ v2) := below_set b2 (Nat.le_refl _)
  have o3 : (Y2.setCell ⟨w.heap.size, 2, none⟩ v2).ownsRow B e 1 v n xs := owns_same o2 fun g hg => Below.heap_setCell _ _ _ _ (by have := (owns_lt o2 g hg).2; show g ≠ w.heap.size; omega)
  generalize (Y2.setCell ⟨w.heap.size, 2, none⟩ v2) = Y3 at h3 b3 o3 ⊢
  have h4 : (Y3.setCell ⟨w.heap.size, 3, none⟩ v3).heap[w.heap.size]? = some (.cells #[v0, v1, v2, v3, a4] t (0, 0)) := put_box h3 3 v3 (by simp)
  have b4 : Below w.heap.size w (Y3.setCell ⟨w.heap.size, 3, none⟩ v3) := below_set b3 (Nat.le_refl _)
  have o4 : (Y3.setCell ⟨w.heap.size, 3, none⟩ v3).ownsRow B e 1 v n xs := owns_same o3 fun g hg => Below.heap_setCell _ _ _ _ (by have := (owns_lt o3 g hg).2; show g ≠ w.heap.size; omega)
  generalize (Y3.setCell ⟨w.heap.size, 3, none⟩ v3) = Y4 at h4 b4 o4 ⊢
  have h5 : (Y4.setCell ⟨w.heap.size, 4, none⟩ v4).heap[w.heap.size]? = some (.cells #[v0, v1, v2, v3, v4] t (0, 0)) := put_box h4 4 v4 (by simp)
  have b5 : Below w.heap.size w (Y4.setCell ⟨w.heap.size, 4, none⟩ v4) := below_set b4 (Nat.le_refl _)
  have o5 : (Y4.setCell ⟨w.heap.size, 4, none⟩ v4).ownsRow B e 1 v n xs := owns_same o4 fun g hg => Below.heap_setCell _ _ _ _ (by have := (owns_lt o4 g hg).2; show g ≠ w.heap.size; omega)
  generalize (Y4.setCell ⟨w.heap.size, 4, none⟩ v4) = Y5 at h5 b5 o5 ⊢
  exact ⟨h5, owns_same o5 (fun _ _ => rfl), below_drew b5⟩
theorem close6 {w Wx : World} {t : TypeId} {a0 a1 a2 a3 a4 a5 : Value} {B e n : Nat} {v : Value} {xs : List Value} (hbox : Wx.heap[w.heap.size]? = some (.cells #[a0, a1, a2, a3, a4, a5] t (0, 0))) (hbel : Below w.heap.size w Wx) (how : Wx.ownsRow B e 1 v n xs) (hB : w.heap.size < B) (v0 v1 v2 v3 v4 v5 : Value) :
    (((((((Wx.setCell ⟨w.heap.size, 0, none⟩ v0).setCell ⟨w.heap.size, 1, none⟩ v1).setCell ⟨w.heap.size, 2, none⟩ v2).setCell ⟨w.heap.size, 3, none⟩ v3).setCell ⟨w.heap.size, 4, none⟩ v4).setCell ⟨w.heap.size, 5, none⟩ v5).drew).heap[w.heap.size]? = some (.cells #[v0, v1, v2, v3, v4, v5] t (0, 0)) ∧ (((((((Wx.setCell ⟨w.heap.size, 0, none⟩ v0).setCell ⟨w.heap.size, 1, none⟩ v1).setCell ⟨w.heap.size, 2, none⟩ v2).setCell ⟨w.heap.size, 3, none⟩ v3).setCell ⟨w.heap.size, 4, none⟩ v4).setCell ⟨w.heap.size, 5, none⟩ v5).drew).ownsRow B e 1 v n xs ∧ Below w.heap.size w (((((((Wx.setCell ⟨w.heap.size, 0, none⟩ v0).setCell ⟨w.heap.size, 1, none⟩ v1).setCell ⟨w.heap.size, 2, none⟩ v2).setCell ⟨w.heap.size, 3, none⟩ v3).setCell ⟨w.heap.size, 4, none⟩ v4).setCell ⟨w.heap.size, 5, none⟩ v5).drew) := by
  have h0 := hbox
  have b0 := hbel
  have o0 := how
  have h1 : (Wx.setCell ⟨w.heap.size, 0, none⟩ v0).heap[w.heap.size]? = some (.cells #[v0, a1, a2, a3, a4, a5] t (0, 0)) := put_box h0 0 v0 (by simp)
  have b1 : Below w.heap.size w (Wx.setCell ⟨w.heap.size, 0, none⟩ v0) := below_set b0 (Nat.le_refl _)
  have o1 : (Wx.setCell ⟨w.heap.size, 0, none⟩ v0).ownsRow B e 1 v n xs := owns_same o0 fun g hg => Below.heap_setCell _ _ _ _ (by have := (owns_lt o0 g hg).2; show g ≠ w.heap.size; omega)
  generalize (Wx.setCell ⟨w.heap.size, 0, none⟩ v0) = Y1 at h1 b1 o1 ⊢
  have h2 : (Y1.setCell ⟨w.heap.size, 1, none⟩ v1).heap[w.heap.size]? = some (.cells #[v0, v1, a2, a3, a4, a5] t (0, 0)) := put_box h1 1 v1 (by simp)
  have b2 : Below w.heap.size w (Y1.setCell ⟨w.heap.size, 1, none⟩ v1) := below_set b1 (Nat.le_refl _)
  have o2 : (Y1.setCell ⟨w.heap.size, 1, none⟩ v1).ownsRow B e 1 v n xs := owns_same o1 fun g hg => Below.heap_setCell _ _ _ _ (by have := (owns_lt o1 g hg).2; show g ≠ w.heap.size; omega)
  generalize (Y1.setCell ⟨w.heap.size, 1, none⟩ v1) = Y2 at h2 b2 o2 ⊢
  have h3 : (Y2.setCell ⟨w.heap.size, 2, none⟩ v2).heap[w.heap.size]? = some (.cells #[v0, v1, v2, a3, a4, a5] t (0, 0)) := put_box h2 2 v2 (by simp)
  have b3 : Below w.heap.size w (Y2.setCell ⟨w.heap.size, 2, none⟩ v2) := below_set b2 (Nat.le_refl _)
  have o3 : (Y2.setCell ⟨w.heap.size, 2, none⟩ v2).ownsRow B e 1 v n xs := owns_same o2 fun g hg => Below.heap_setCell _ _ _ _ (by have := (owns_lt o2 g hg).2; show g ≠ w.heap.size; omega)
  generalize (Y2.setCell ⟨w.heap.size, 2, none⟩ v2) = Y3 at h3 b3 o3 ⊢
  have h4 : (Y3.setCell ⟨w.heap.size, 3, none⟩ v3).heap[w.heap.size]? = some (.cells #[v0, v1, v2, v3, a4, a5] t (0, 0)) := put_box h3 3 v3 (by simp)
  have b4 : Below w.heap.size w (Y3.setCell ⟨w.heap.size, 3, none⟩ v3) := below_set b3 (Nat.le_refl _)
  have o4 : (Y3.setCell ⟨w.heap.size, 3, none⟩ v3).ownsRow B e 1 v n xs := owns_same o3 fun g hg => Below.heap_setCell _ _ _ _ (by have := (owns_lt o3 g hg).2; show g ≠ w.heap.size; omega)
  generalize (Y3.setCell ⟨w.heap.size, 3, none⟩ v3) = Y4 at h4 b4 o4 ⊢
  have h5 : (Y4.setCell ⟨w.heap.size, 4, none⟩ v4).heap[w.heap.size]? = some (.cells #[v0, v1, v2, v3, v4, a5] t (0, 0)) := put_box h4 4 v4 (by simp)
  have b5 : Below w.heap.size w (Y4.setCell ⟨w.heap.size, 4, none⟩ v4) := below_set b4 (Nat.le_refl _)
  have o5 : (Y4.setCell ⟨w.heap.size, 4, none⟩ v4).ownsRow B e 1 v n xs := owns_same o4 fun g hg => Below.heap_setCell _ _ _ _ (by have := (owns_lt o4 g hg).2; show g ≠ w.heap.size; omega)
  generalize (Y4.setCell ⟨w.heap.size, 4, none⟩ v4) = Y5 at h5 b5 o5 ⊢
  have h6 : (Y5.setCell ⟨w.heap.size, 5, none⟩ v5).heap[w.heap.size]? = some (.cells #[v0, v1, v2, v3, v4, v5] t (0, 0)) := put_box h5 5 v5 (by simp)
  have b6 : Below w.heap.size w (Y5.setCell ⟨w.heap.size, 5, none⟩ v5) := below_set b5 (Nat.le_refl _)
  have o6 : (Y5.setCell ⟨w.heap.size, 5, none⟩ v5).ownsRow B e 1 v n xs := owns_same o5 fun g hg => Below.heap_setCell _ _ _ _ (by have := (owns_lt o5 g hg).2; show g ≠ w.heap.size; omega)
  generalize (Y5.setCell ⟨w.heap.size, 5, none⟩ v5) = Y6 at h6 b6 o6 ⊢
  exact ⟨h6, owns_same o6 (fun _ _ => rfl), below_drew b6⟩
end Go.Proofs.YtjikibhhhchgeaaDoor

namespace Go.Proofs.YtjikibhhhchgeaaDoor
open Go.RowKit
set_option linter.unusedVariables false
set_option linter.unusedSimpArgs false
set_option maxRecDepth 100000
theorem closeb1 {w Wx : World} {t : TypeId} {a0 : Value} (hbox : Wx.heap[w.heap.size]? = some (.cells #[a0] t (0, 0))) (hbel : Below w.heap.size w Wx) (v0 : Value) :
    ((Wx.setCell ⟨w.heap.size, 0, none⟩ v0).drew).heap[w.heap.size]? = some (.cells #[v0] t (0, 0)) ∧ Below w.heap.size w ((Wx.setCell ⟨w.heap.size, 0, none⟩ v0).drew) := by
  have h0 := hbox
  have b0 := hbel
  have h1 : (Wx.setCell ⟨w.heap.size, 0, none⟩ v0).heap[w.heap.size]? = some (.cells #[v0] t (0, 0)) := put_box h0 0 v0 (by simp)
  have b1 : Below w.heap.size w (Wx.setCell ⟨w.heap.size, 0, none⟩ v0) := below_set b0 (Nat.le_refl _)
  generalize (Wx.setCell ⟨w.heap.size, 0, none⟩ v0) = Y1 at h1 b1 ⊢
  exact ⟨h1, below_drew b1⟩
theorem closeb2 {w Wx : World} {t : TypeId} {a0 a1 : Value} (hbox : Wx.heap[w.heap.size]? = some (.cells #[a0, a1] t (0, 0))) (hbel : Below w.heap.size w Wx) (v0 v1 : Value) :
    (((Wx.setCell ⟨w.heap.size, 0, none⟩ v0).setCell ⟨w.heap.size, 1, none⟩ v1).drew).heap[w.heap.size]? = some (.cells #[v0, v1] t (0, 0)) ∧ Below w.heap.size w (((Wx.setCell ⟨w.heap.size, 0, none⟩ v0).setCell ⟨w.heap.size, 1, none⟩ v1).drew) := by
  have h0 := hbox
  have b0 := hbel
  have h1 : (Wx.setCell ⟨w.heap.size, 0, none⟩ v0).heap[w.heap.size]? = some (.cells #[v0, a1] t (0, 0)) := put_box h0 0 v0 (by simp)
  have b1 : Below w.heap.size w (Wx.setCell ⟨w.heap.size, 0, none⟩ v0) := below_set b0 (Nat.le_refl _)
  generalize (Wx.setCell ⟨w.heap.size, 0, none⟩ v0) = Y1 at h1 b1 ⊢
  have h2 : (Y1.setCell ⟨w.heap.size, 1, none⟩ v1).heap[w.heap.size]? = some (.cells #[v0, v1] t (0, 0)) := put_box h1 1 v1 (by simp)
  have b2 : Below w.heap.size w (Y1.setCell ⟨w.heap.size, 1, none⟩ v1) := below_set b1 (Nat.le_refl _)
  generalize (Y1.setCell ⟨w.heap.size, 1, none⟩ v1) = Y2 at h2 b2 ⊢
  exact ⟨h2, below_drew b2⟩
theorem closeb3 {w Wx : World} {t : TypeId} {a0 a1 a2 : Value} (hbox : Wx.heap[w.heap.size]? = some (.cells #[a0, a1, a2] t (0, 0))) (hbel : Below w.heap.size w Wx) (v0 v1 v2 : Value) :
    ((((Wx.setCell ⟨w.heap.size, 0, none⟩ v0).setCell ⟨w.heap.size, 1, none⟩ v1).setCell ⟨w.heap.size, 2, none⟩ v2).drew).heap[w.heap.size]? = some (.cells #[v0, v1, v2] t (0, 0)) ∧ Below w.heap.size w ((((Wx.setCell ⟨w.heap.size, 0, none⟩ v0).setCell ⟨w.heap.size, 1, none⟩ v1).setCell ⟨w.heap.size, 2, none⟩ v2).drew) := by
  have h0 := hbox
  have b0 := hbel
  have h1 : (Wx.setCell ⟨w.heap.size, 0, none⟩ v0).heap[w.heap.size]? = some (.cells #[v0, a1, a2] t (0, 0)) := put_box h0 0 v0 (by simp)
  have b1 : Below w.heap.size w (Wx.setCell ⟨w.heap.size, 0, none⟩ v0) := below_set b0 (Nat.le_refl _)
  generalize (Wx.setCell ⟨w.heap.size, 0, none⟩ v0) = Y1 at h1 b1 ⊢
  have h2 : (Y1.setCell ⟨w.heap.size, 1, none⟩ v1).heap[w.heap.size]? = some (.cells #[v0, v1, a2] t (0, 0)) := put_box h1 1 v1 (by simp)
  have b2 : Below w.heap.size w (Y1.setCell ⟨w.heap.size, 1, none⟩ v1) := below_set b1 (Nat.le_refl _)
  generalize (Y1.setCell ⟨w.heap.size, 1, none⟩ v1) = Y2 at h2 b2 ⊢
  have h3 : (Y2.setCell ⟨w.heap.size, 2, none⟩ v2).heap[w.heap.size]? = some (.cells #[v0, v1, v2] t (0, 0)) := put_box h2 2 v2 (by simp)
  have b3 : Below w.heap.size w (Y2.setCell ⟨w.heap.size, 2, none⟩ v2) := below_set b2 (Nat.le_refl _)
  generalize (Y2.setCell ⟨w.heap.size, 2, none⟩ v2) = Y3 at h3 b3 ⊢
  exact ⟨h3, below_drew b3⟩
theorem closeb4 {w Wx : World} {t : TypeId} {a0 a1 a2 a3 : Value} (hbox : Wx.heap[w.heap.size]? = some (.cells #[a0, a1, a2, a3] t (0, 0))) (hbel : Below w.heap.size w Wx) (v0 v1 v2 v3 : Value) :
    (((((Wx.setCell ⟨w.heap.size, 0, none⟩ v0).setCell ⟨w.heap.size, 1, none⟩ v1).setCell ⟨w.heap.size, 2, none⟩ v2).setCell ⟨w.heap.size, 3, none⟩ v3).drew).heap[w.heap.size]? = some (.cells #[v0, v1, v2, v3] t (0, 0)) ∧ Below w.heap.size w (((((Wx.setCell ⟨w.heap.size, 0, none⟩ v0).setCell ⟨w.heap.size, 1, none⟩ v1).setCell ⟨w.heap.size, 2, none⟩ v2).setCell ⟨w.heap.size, 3, none⟩ v3).drew) := by
  have h0 := hbox
  have b0 := hbel
  have h1 : (Wx.setCell ⟨w.heap.size, 0, none⟩ v0).heap[w.heap.size]? = some (.cells #[v0, a1, a2, a3] t (0, 0)) := put_box h0 0 v0 (by simp)
  have b1 : Below w.heap.size w (Wx.setCell ⟨w.heap.size, 0, none⟩ v0) := below_set b0 (Nat.le_refl _)
  generalize (Wx.setCell ⟨w.heap.size, 0, none⟩ v0) = Y1 at h1 b1 ⊢
  have h2 : (Y1.setCell ⟨w.heap.size, 1, none⟩ v1).heap[w.heap.size]? = some (.cells #[v0, v1, a2, a3] t (0, 0)) := put_box h1 1 v1 (by simp)
  have b2 : Below w.heap.size w (Y1.setCell ⟨w.heap.size, 1, none⟩ v1) := below_set b1 (Nat.le_refl _)
  generalize (Y1.setCell ⟨w.heap.size, 1, none⟩ v1) = Y2 at h2 b2 ⊢
  have h3 : (Y2.setCell ⟨w.heap.size, 2, none⟩ v2).heap[w.heap.size]? = some (.cells #[v0, v1, v2, a3] t (0, 0)) := put_box h2 2 v2 (by simp)
  have b3 : Below w.heap.size w (Y2.setCell ⟨w.heap.size, 2, none⟩ v2) := below_set b2 (Nat.le_refl _)
  generalize (Y2.setCell ⟨w.heap.size, 2, none⟩ v2) = Y3 at h3 b3 ⊢
  have h4 : (Y3.setCell ⟨w.heap.size, 3, none⟩ v3).heap[w.heap.size]? = some (.cells #[v0, v1, v2, v3] t (0, 0)) := put_box h3 3 v3 (by simp)
  have b4 : Below w.heap.size w (Y3.setCell ⟨w.heap.size, 3, none⟩ v3) := below_set b3 (Nat.le_refl _)
  generalize (Y3.setCell ⟨w.heap.size, 3, none⟩ v3) = Y4 at h4 b4 ⊢
  exact ⟨h4, below_drew b4⟩
theorem closeb5 {w Wx : World} {t : TypeId} {a0 a1 a2 a3 a4 : Value} (hbox : Wx.heap[w.heap.size]? = some (.cells #[a0, a1, a2, a3, a4] t (0, 0))) (hbel : Below w.heap.size w Wx) (v0 v1 v2 v3 v4 : Value) :
    ((((((Wx.setCell ⟨w.heap.size, 0, none⟩ v0).setCell ⟨w.heap.size, 1, none⟩ v1).setCell ⟨w.heap.size, 2, none⟩ v2).setCell ⟨w.heap.size, 3, none⟩ v3).setCell ⟨w.heap.size, 4, none⟩ v4).drew).heap[w.heap.size]? = some (.cells #[v0, v1, v2, v3, v4] t (0, 0)) ∧ Below w.heap.size w ((((((Wx.setCell ⟨w.heap.size, 0, none⟩ v0).setCell ⟨w.heap.size, 1, none⟩ v1).setCell ⟨w.heap.size, 2, none⟩ v2).setCell ⟨w.heap.size, 3, none⟩ v3).setCell ⟨w.heap.size, 4, none⟩ v4).drew) := by
  have h0 := hbox
  have b0 := hbel
  have h1 : (Wx.setCell ⟨w.heap.size, 0, none⟩ v0).heap[w.heap.size]? = some (.cells #[v0, a1, a2, a3, a4] t (0, 0)) := put_box h0 0 v0 (by simp)
  have b1 : Below w.heap.size w (Wx.setCell ⟨w.heap.size, 0, none⟩ v0) := below_set b0 (Nat.le_refl _)
  generalize (Wx.setCell ⟨w.heap.size, 0, none⟩ v0) = Y1 at h1 b1 ⊢
  have h2 : (Y1.setCell ⟨w.heap.size, 1, none⟩ v1).heap[w.heap.size]? = some (.cells #[v0, v1, a2, a3, a4] t (0, 0)) := put_box h1 1 v1 (by simp)
  have b2 : Below w.heap.size w (Y1.setCell ⟨w.heap.size, 1, none⟩ v1) := below_set b1 (Nat.le_refl _)
  generalize (Y1.setCell ⟨w.heap.size, 1, none⟩ v1) = Y2 at h2 b2 ⊢
  have h3 : (Y2.setCell ⟨w.heap.size, 2, none⟩ v2).heap[w.heap.size]? = some (.cells #[v0, v1, v2, a3, a4] t (0, 0)) := put_box h2 2 v2 (by simp)
  have b3 : Below w.heap.size w (Y2.setCell ⟨w.heap.size, 2, none⟩ v2) := below_set b2 (Nat.le_refl _)
  generalize (Y2.setCell ⟨w.heap.size, 2, none⟩ v2) = Y3 at h3 b3 ⊢
  have h4 : (Y3.setCell ⟨w.heap.size, 3, none⟩ v3).heap[w.heap.size]? = some (.cells #[v0, v1, v2, v3, a4] t (0, 0)) := put_box h3 3 v3 (by simp)
  have b4 : Below w.heap.size w (Y3.setCell ⟨w.heap.size, 3, none⟩ v3) := below_set b3 (Nat.le_refl _)
  generalize (Y3.setCell ⟨w.heap.size, 3, none⟩ v3) = Y4 at h4 b4 ⊢
  have h5 : (Y4.setCell ⟨w.heap.size, 4, none⟩ v4).heap[w.heap.size]? = some (.cells #[v0, v1, v2, v3, v4] t (0, 0)) := put_box h4 4 v4 (by simp)
  have b5 : Below w.heap.size w (Y4.setCell ⟨w.heap.size, 4, none⟩ v4) := below_set b4 (Nat.le_refl _)
  generalize (Y4.setCell ⟨w.heap.size, 4, none⟩ v4) = Y5 at h5 b5 ⊢
  exact ⟨h5, below_drew b5⟩
theorem closeb6 {w Wx : World} {t : TypeId} {a0 a1 a2 a3 a4 a5 : Value} (hbox : Wx.heap[w.heap.size]? = some (.cells #[a0, a1, a2, a3, a4, a5] t (0, 0))) (hbel : Below w.heap.size w Wx) (v0 v1 v2 v3 v4 v5 : Value) :
    (((((((Wx.setCell ⟨w.heap.size, 0, none⟩ v0).setCell ⟨w.heap.size, 1, none⟩ v1).setCell ⟨w.heap.size, 2, none⟩ v2).setCell ⟨w.heap.size, 3, none⟩ v3).setCell ⟨w.heap.size, 4, none⟩ v4).setCell ⟨w.heap.size, 5, none⟩ v5).drew).heap[w.heap.size]? = some (.cells #[v0, v1, v2, v3, v4, v5] t (0, 0)) ∧ Below w.heap.size w (((((((Wx.setCell ⟨w.heap.size, 0, none⟩ v0).setCell ⟨w.heap.size, 1, none⟩ v1).setCell ⟨w.heap.size, 2, none⟩ v2).setCell ⟨w.heap.size, 3, none⟩ v3).setCell ⟨w.heap.size, 4, none⟩ v4).setCell ⟨w.heap.size, 5, none⟩ v5).drew) := by
  have h0 := hbox
  have b0 := hbel
  have h1 : (Wx.setCell ⟨w.heap.size, 0, none⟩ v0).heap[w.heap.size]? = some (.cells #[v0, a1, a2, a3, a4, a5] t (0, 0)) := put_box h0 0 v0 (by simp)
  have b1 : Below w.heap.size w (Wx.setCell ⟨w.heap.size, 0, none⟩ v0) := below_set b0 (Nat.le_refl _)
  generalize (Wx.setCell ⟨w.heap.size, 0, none⟩ v0) = Y1 at h1 b1 ⊢
  have h2 : (Y1.setCell ⟨w.heap.size, 1, none⟩ v1).heap[w.heap.size]? = some (.cells #[v0, v1, a2, a3, a4, a5] t (0, 0)) := put_box h1 1 v1 (by simp)
  have b2 : Below w.heap.size w (Y1.setCell ⟨w.heap.size, 1, none⟩ v1) := below_set b1 (Nat.le_refl _)
  generalize (Y1.setCell ⟨w.heap.size, 1, none⟩ v1) = Y2 at h2 b2 ⊢
  have h3 : (Y2.setCell ⟨w.heap.size, 2, none⟩ v2).heap[w.heap.size]? = some (.cells #[v0, v1, v2, a3, a4, a5] t (0, 0)) := put_box h2 2 v2 (by simp)
  have b3 : Below w.heap.size w (Y2.setCell ⟨w.heap.size, 2, none⟩ v2) := below_set b2 (Nat.le_refl _)
  generalize (Y2.setCell ⟨w.heap.size, 2, none⟩ v2) = Y3 at h3 b3 ⊢
  have h4 : (Y3.setCell ⟨w.heap.size, 3, none⟩ v3).heap[w.heap.size]? = some (.cells #[v0, v1, v2, v3, a4, a5] t (0, 0)) := put_box h3 3 v3 (by simp)
  have b4 : Below w.heap.size w (Y3.setCell ⟨w.heap.size, 3, none⟩ v3) := below_set b3 (Nat.le_refl _)
  generalize (Y3.setCell ⟨w.heap.size, 3, none⟩ v3) = Y4 at h4 b4 ⊢
  have h5 : (Y4.setCell ⟨w.heap.size, 4, none⟩ v4).heap[w.heap.size]? = some (.cells #[v0, v1, v2, v3, v4, a5] t (0, 0)) := put_box h4 4 v4 (by simp)
  have b5 : Below w.heap.size w (Y4.setCell ⟨w.heap.size, 4, none⟩ v4) := below_set b4 (Nat.le_refl _)
  generalize (Y4.setCell ⟨w.heap.size, 4, none⟩ v4) = Y5 at h5 b5 ⊢
  have h6 : (Y5.setCell ⟨w.heap.size, 5, none⟩ v5).heap[w.heap.size]? = some (.cells #[v0, v1, v2, v3, v4, v5] t (0, 0)) := put_box h5 5 v5 (by simp)
  have b6 : Below w.heap.size w (Y5.setCell ⟨w.heap.size, 5, none⟩ v5) := below_set b5 (Nat.le_refl _)
  generalize (Y5.setCell ⟨w.heap.size, 5, none⟩ v5) = Y6 at h6 b6 ⊢
  exact ⟨h6, below_drew b6⟩
end Go.Proofs.YtjikibhhhchgeaaDoor

namespace Go.Proofs.YtjikibhhhchgeaaDoor
open Go.RowKit
set_option linter.unusedVariables false
set_option linter.unusedSimpArgs false
set_option maxRecDepth 100000
set_option maxHeartbeats 8000000 in
theorem decChunk0_ok (b off cap n : Nat) (l : List Nat) (most : Nat) (f t c k : Nat) (w : World) (h : CRow w (some ⟨b, off, none⟩) cap l) (HN : Hid (l.length = n)) (hs : 20 ≤ n) (HX0 : Hid (valB ((l.drop 0).take 4) = mChunk)) (HX1 : Hid (valB ((l.drop 4).take 2) = f)) (HX2 : Hid (valB ((l.drop 6).take 2) = t)) (HX3 : Hid (valB ((l.drop 8).take 8) = c)) (HX5 : Hid (valB ((l.drop 16).take 4) = k)) (hk64 : k < 18446744073709551616) (hm4 : most < 4294967296) (hle : k ≤ most) (hfit : k ≤ n - 20) (N : Nat) (hN : 20 + k = N) (m : List Nat) (hm : (l.drop 20).take k = m) :
    Calls Tryd.prog 28 #[.slice (some ⟨b, off, none⟩) n cap, .int .u32 (most : Int), .bool false] w fun e w' => ∃ ao2 cap2, e = .returned (.tuple #[.agg #[.int .u16 (f : Int), .int .u16 (t : Int), .int .u64 (c : Int), .int .u64 0, .slice ao2 k cap2], .int .i64 (N : Int), .int .i64 0]) ∧ w'.ownsRow w.heap.size 5 1 (.slice ao2 k cap2) k (m.map bv) ∧ Below w.heap.size w w' := by
  have HXs : Hid (∀ W : World, Calls Tryd.prog 77 #[.bool false] W fun e W' => e = .returned (.tuple #[.int .u32 (mChunk : Nat), .int .i64 20]) ∧ W' = W) := fun W => by
    go_enter Tryd.func77, Tryd.ntmps77
    go_wp2
    go_ret2
    exact ⟨rfl, rfl⟩
  have hnl := h.row.len
  rw [HN.out] at hnl
  have hsl : 20 ≤ l.length := by rw [HN.out]; exact hs
  have HC : Hid (CRow w (some ⟨b, off, none⟩) cap l) := h
  obtain ⟨W0, hW0⟩ : ∃ W0, W0 = (((w.alloc (.cells #[.int .u16 0, .int .u16 0, .int .u64 0, .int .u64 0, nilV] 85)).alloc (.cells #[.int .u16 0, .int .u16 0, .int .u64 0, .int .u64 0, nilV] 85)).alloc (.cells #[.int .u16 0, .int .u16 0, .int .u64 0, .int .u64 0, nilV] 85)) := ⟨_, rfl⟩
  have HO : Hid (Calls Tryd.prog 81 #[.slice (some ⟨b, off, none⟩) n cap, .int .i64 20] W0 fun e W' => ∃ r hh ao' cap' a2 c2, e = .returned (.pointer (some ⟨r, 0, none⟩)) ∧ Dec w W' (bx3 w 85 #[.int .u16 0, .int .u16 0, .int .u64 0, .int .u64 0, nilV] #[.int .u16 0, .int .u16 0, .int .u64 0, .int .u64 0, nilV] #[.int .u16 0, .int .u16 0, .int .u64 0, .int .u64 0, nilV]) W0.heap.size r hh ao' cap' (l.take 20) 0 (.slice (some a2) (n - 20) c2) 0 20 0 ∧ n - 20 ≤ c2 ∧ c2 ≤ 9223372036854775807 ∧ (n - 20 ≠ 0 → a2 = ⟨b, off + 20, none⟩)) := by
    rw [hW0]; exact open_ok b off cap n 20 l (bx3_bel w _ _ _) (bx3_new w _ _ _ _) (bx3_nd w _ _ _ _) (h.later (bx3_bel w _ _ _)) HN hs (by decide) (by decide)
  clear h
  go_enter Tryd.func28, Tryd.ntmps28
  go_wp2
  refine wp_scope_jumps 0 (fun _ _ => False) (fun _ _ => 0) rfl ?first ?pass
  case first =>
    go_wp2_with fail
    refine (HXs.out _).mono ?_
    rintro e W9 ⟨rfl, hw9⟩
    rw [hw9]; clear hw9 HXs
    go_wp2_with fail
    rw [← hW0]
    clear hW0
    refine HO.out.mono ?_
    rintro e W1 ⟨r, hh, ao', cap', a2, c2, rfl, h1, hc1, hc2, ha2⟩
    have H1 : Hid _ := h1
    have HA : Hid _ := ha2
    clear h1 HO ha2
    go_wp2_with fail
    refine (magic32_ok H1.out (by rw [List.length_take]; omega) mChunk (by rw [tk _ _ _ _ (by decide)]; exact HX0.out)).mono ?_
    rintro e W2 ⟨rfl, hx⟩
    have H2 : Hid _ := hx
    clear hx H1
    go_wp2_with fail
    refine (rx_u16 H2.out f HX1.out (by decide) hsl).mono ?_
    rintro e W3 ⟨rfl, hx⟩
    have H3 : Hid _ := hx
    clear hx H2
    go_wp2_with fail
    refine (rx_u16 H3.out t HX2.out (by decide) hsl).mono ?_
    rintro e W4 ⟨rfl, hx⟩
    have H4 : Hid _ := hx
    clear hx H3
    go_wp2_with fail
    refine (rx_u64 H4.out c HX3.out (by decide) hsl).mono ?_
    rintro e W5 ⟨rfl, hx⟩
    have H5 : Hid _ := hx
    clear hx H4
    obtain ⟨s0, u0⟩ := H5.out.b (.tail _ (.tail _ (.head _))) 0
    simp at s0
    obtain ⟨s1, u1⟩ := H5.out.b (.tail _ (.tail _ (.head _))) 1
    simp at s1
    obtain ⟨s2, u2⟩ := H5.out.b (.tail _ (.tail _ (.head _))) 2
    simp at s2
    go_wp2_with fail
    replace H5 : Hid _ := H5.out.putS 0 (.int .u16 (f : Int)) #[.int .u16 (f : Int), .int .u16 0, .int .u64 0, .int .u64 0, nilV] rfl
    replace H5 : Hid _ := H5.out.putS 1 (.int .u16 (t : Int)) #[.int .u16 (f : Int), .int .u16 (t : Int), .int .u64 0, .int .u64 0, nilV] rfl
    replace H5 : Hid _ := H5.out.putS 2 (.int .u64 (c : Int)) #[.int .u16 (f : Int), .int .u16 (t : Int), .int .u64 (c : Int), .int .u64 0, nilV] rfl
    refine (rx_number_plain H5.out k HX5.out (by decide) hsl).mono ?_
    rintro e W6 ⟨rfl, hx⟩
    have H6 : Hid _ := hx
    clear hx H5 s0 u0 s1 u1 s2 u2
    go_wp2_with fail
    refine (measure_rest H6.out (by decide) (by omega) k most hm4 hle N hN).mono ?_
    rintro e W7 hx
    have HX9 : Hid _ := hx
    clear hx H6 
    rcases HX9.out with ⟨hx, _⟩ | ⟨_, rfl, hx⟩
    · omega
    have H7 : Hid _ := hx
    clear hx HX9
    have hml : m.length = k := by rw [← hm, List.length_take, List.length_drop, HN.out]; omega
    have hmt : ∀ x ∈ m, x < 256 := fun x hx => HC.out.row.lt x (by rw [← hm] at hx; exact List.mem_of_mem_drop (List.mem_of_mem_take hx))
    have HDt : Hid _ := data_any (len := k) H7.out m hml hmt (by rw [← hm]; exact tail_news HC.out H7.out.bel (by rw [HN.out]; exact HA.out)) (by omega) hc1 (by omega) hc2
    have HB : Hid (w.heap.size + 1 + 1 < W7.heap.size) := by show _ < _; have h1 := block_lt H7.out.rd; have h2 := H7.out.hr; have h3 : w.heap.size + 1 + 1 < _ := (H7.out.box _ (.tail _ (.tail _ (.head _)))).2.2; omega
    clear H7 HX0 HX1 HX2 HX3 HX5 HN HC hml hmt HA
    go_wp2_with fail
    refine Calls.mono HDt.out ?_
    rintro e W8 ⟨ao2, cap2, rfl, ho, hb, h9⟩
    have H8 : Hid _ := h9
    have HR : Hid (W8.ownsRow W7.heap.size 5 1 (.slice ao2 k cap2) k (m.map bv)) := ho
    clear h9 ho hb HDt
    obtain ⟨c10, f10⟩ := H8.out.b (.tail _ (.head _)) 0
    obtain ⟨c20, f20⟩ := H8.out.b (.tail _ (.tail _ (.head _))) 0
    obtain ⟨c11, f11⟩ := H8.out.b (.tail _ (.head _)) 1
    obtain ⟨c21, f21⟩ := H8.out.b (.tail _ (.tail _ (.head _))) 1
    obtain ⟨c12, f12⟩ := H8.out.b (.tail _ (.head _)) 2
    obtain ⟨c22, f22⟩ := H8.out.b (.tail _ (.tail _ (.head _))) 2
    obtain ⟨c13, f13⟩ := H8.out.b (.tail _ (.head _)) 3
    obtain ⟨c23, f23⟩ := H8.out.b (.tail _ (.tail _ (.head _))) 3
    obtain ⟨c14, f14⟩ := H8.out.b (.tail _ (.head _)) 4
    obtain ⟨c24, f24⟩ := H8.out.b (.tail _ (.tail _ (.head _))) 4
    simp at c10 c20 c11 c21 c12 c22 c13 c23 c14 c24
    go_wp2
    go_step3
    have HF : Hid _ := ((((((H8.out.putS 4 (.slice ao2 k cap2) #[.int .u16 (f : Int), .int .u16 (t : Int), .int .u64 (c : Int), .int .u64 0, .slice ao2 k cap2] rfl).putO 0 (.int .u16 (f : Int)) #[.int .u16 (f : Int), .int .u16 0, .int .u64 0, .int .u64 0, nilV] rfl).putO 1 (.int .u16 (t : Int)) #[.int .u16 (f : Int), .int .u16 (t : Int), .int .u64 0, .int .u64 0, nilV] rfl).putO 2 (.int .u64 (c : Int)) #[.int .u16 (f : Int), .int .u16 (t : Int), .int .u64 (c : Int), .int .u64 0, nilV] rfl).putO 3 (.int .u64 0) #[.int .u16 (f : Int), .int .u16 (t : Int), .int .u64 (c : Int), .int .u64 0, nilV] rfl).putO 4 (.slice ao2 k cap2) #[.int .u16 (f : Int), .int .u16 (t : Int), .int .u64 (c : Int), .int .u64 0, .slice ao2 k cap2] rfl)
    have HW : Hid ((((((((W8.setCell ⟨w.heap.size + 1 + 1, 4, none⟩ (.slice ao2 k cap2)).setCell ⟨w.heap.size + 1, 0, none⟩ (.int .u16 (f : Int))).setCell ⟨w.heap.size + 1, 1, none⟩ (.int .u16 (t : Int))).setCell ⟨w.heap.size + 1, 2, none⟩ (.int .u64 (c : Int))).setCell ⟨w.heap.size + 1, 3, none⟩ (.int .u64 0)).setCell ⟨w.heap.size + 1, 4, none⟩ (.slice ao2 k cap2))).ownsRow W7.heap.size 5 1 (.slice ao2 k cap2) k (m.map bv)) := setAll_owns [(w.heap.size + 1 + 1, 4, .slice ao2 k cap2), (w.heap.size + 1, 0, .int .u16 (f : Int)), (w.heap.size + 1, 1, .int .u16 (t : Int)), (w.heap.size + 1, 2, .int .u64 (c : Int)), (w.heap.size + 1, 3, .int .u64 0), (w.heap.size + 1, 4, .slice ao2 k cap2)] W8 HR.out (by have := HB.out; simp; omega)
    clear HR H8 c10 f10 c20 f20 c11 f11 c21 f21 c12 f12 c22 f22 c13 f13 c23 f23 c14 f14 c24 f24
    generalize ((((((W8.setCell ⟨w.heap.size + 1 + 1, 4, none⟩ (.slice ao2 k cap2)).setCell ⟨w.heap.size + 1, 0, none⟩ (.int .u16 (f : Int))).setCell ⟨w.heap.size + 1, 1, none⟩ (.int .u16 (t : Int))).setCell ⟨w.heap.size + 1, 2, none⟩ (.int .u64 (c : Int))).setCell ⟨w.heap.size + 1, 3, none⟩ (.int .u64 0)).setCell ⟨w.heap.size + 1, 4, none⟩ (.slice ao2 k cap2)) = Wx at *
    have hn1 : ¬ (w.heap.size = r) := (HF.out.lb.box _ (.head _)).2.2
    have hn2 : ¬ (r = w.heap.size) := fun e => hn1 e.symm
    have r3 := HF.out.lb.cn
    have r4 := HF.out.lb.ce
    obtain ⟨c00, f00⟩ := HF.out.b (.head _) 0
    obtain ⟨c10, f10⟩ := HF.out.b (.tail _ (.head _)) 0
    obtain ⟨c01, f01⟩ := HF.out.b (.head _) 1
    obtain ⟨c11, f11⟩ := HF.out.b (.tail _ (.head _)) 1
    obtain ⟨c02, f02⟩ := HF.out.b (.head _) 2
    obtain ⟨c12, f12⟩ := HF.out.b (.tail _ (.head _)) 2
    obtain ⟨c03, f03⟩ := HF.out.b (.head _) 3
    obtain ⟨c13, f13⟩ := HF.out.b (.tail _ (.head _)) 3
    obtain ⟨c04, f04⟩ := HF.out.b (.head _) 4
    obtain ⟨c14, f14⟩ := HF.out.b (.tail _ (.head _)) 4
    simp at c00 c10 c01 c11 c02 c12 c03 c13 c04 c14
    go_wp2
    go_region
    all_goals
      go_wp2
      rw [jump_ret]
      obtain ⟨HG, HW2, HB2⟩ := close5 (HF.out.box _ (.head _)).1 HF.out.bel HW.out (by have := HB.out; omega) (.int .u16 (f : Int)) (.int .u16 (t : Int)) (.int .u64 (c : Int)) (.int .u64 0) (.slice ao2 k cap2)
      clear HF HW
      generalize (((((Wx.setCell ⟨w.heap.size, 0, none⟩ (.int .u16 (f : Int))).setCell ⟨w.heap.size, 1, none⟩ (.int .u16 (t : Int))).setCell ⟨w.heap.size, 2, none⟩ (.int .u64 (c : Int))).setCell ⟨w.heap.size, 3, none⟩ (.int .u64 0)).setCell ⟨w.heap.size, 4, none⟩ (.slice ao2 k cap2)).drew = Wz at HG HW2 HB2 ⊢
      exact bodyPost_ret (results_cell_tmp2 rfl _ Wz w.heap.size 85 #[.int .u16 (f : Int), .int .u16 (t : Int), .int .u64 (c : Int), .int .u64 0, .slice ao2 k cap2] (0, 0) _ rfl HG Tryd.underlying85 rfl infoChk) rfl ⟨_, _, rfl, owns_mono HW2 (by have := HB.out; omega), HB2⟩
  case pass =>
    rintro a W hf
    exact hf.elim
end Go.Proofs.YtjikibhhhchgeaaDoor

namespace Go.Proofs.YtjikibhhhchgeaaDoor
open Go.RowKit
set_option linter.unusedVariables false
set_option linter.unusedSimpArgs false
set_option maxRecDepth 100000
set_option maxHeartbeats 8000000 in
theorem decChunk1_ok (b off cap n : Nat) (l : List Nat) (most : Nat) (f t c o k : Nat) (w : World) (h : CRow w (some ⟨b, off, none⟩) cap l) (HN : Hid (l.length = n)) (hs : 32 ≤ n) (HX0 : Hid (valB ((l.drop 0).take 4) = mChunk64)) (HX1 : Hid (valB ((l.drop 4).take 2) = f)) (HX2 : Hid (valB ((l.drop 6).take 2) = t)) (HX3 : Hid (valB ((l.drop 8).take 8) = c)) (HX4 : Hid (valB ((l.drop 16).take 8) = o)) (HX5 : Hid (valB ((l.drop 24).take 8) = k)) (hk64 : k < 18446744073709551616) (hm4 : most < 4294967296) (hle : k ≤ most) (hfit : k ≤ n - 32) (N : Nat) (hN : 32 + k = N) (m : List Nat) (hm : (l.drop 32).take k = m) :
    Calls Tryd.prog 28 #[.slice (some ⟨b, off, none⟩) n cap, .int .u32 (most : Int), .bool true] w fun e w' => ∃ ao2 cap2, e = .returned (.tuple #[.agg #[.int .u16 (f : Int), .int .u16 (t : Int), .int .u64 (c : Int), .int .u64 (o : Int), .slice ao2 k cap2], .int .i64 (N : Int), .int .i64 0]) ∧ w'.ownsRow w.heap.size 5 1 (.slice ao2 k cap2) k (m.map bv) ∧ Below w.heap.size w w' := by
  have HXs : Hid (∀ W : World, Calls Tryd.prog 77 #[.bool true] W fun e W' => e = .returned (.tuple #[.int .u32 (mChunk64 : Nat), .int .i64 32]) ∧ W' = W) := fun W => by
    go_enter Tryd.func77, Tryd.ntmps77
    go_wp2
    go_ret2
    exact ⟨rfl, rfl⟩
  have hnl := h.row.len
  rw [HN.out] at hnl
  have hsl : 32 ≤ l.length := by rw [HN.out]; exact hs
  have HC : Hid (CRow w (some ⟨b, off, none⟩) cap l) := h
  obtain ⟨W0, hW0⟩ : ∃ W0, W0 = (((w.alloc (.cells #[.int .u16 0, .int .u16 0, .int .u64 0, .int .u64 0, nilV] 85)).alloc (.cells #[.int .u16 0, .int .u16 0, .int .u64 0, .int .u64 0, nilV] 85)).alloc (.cells #[.int .u16 0, .int .u16 0, .int .u64 0, .int .u64 0, nilV] 85)) := ⟨_, rfl⟩
  have HO : Hid (Calls Tryd.prog 81 #[.slice (some ⟨b, off, none⟩) n cap, .int .i64 32] W0 fun e W' => ∃ r hh ao' cap' a2 c2, e = .returned (.pointer (some ⟨r, 0, none⟩)) ∧ Dec w W' (bx3 w 85 #[.int .u16 0, .int .u16 0, .int .u64 0, .int .u64 0, nilV] #[.int .u16 0, .int .u16 0, .int .u64 0, .int .u64 0, nilV] #[.int .u16 0, .int .u16 0, .int .u64 0, .int .u64 0, nilV]) W0.heap.size r hh ao' cap' (l.take 32) 0 (.slice (some a2) (n - 32) c2) 0 32 0 ∧ n - 32 ≤ c2 ∧ c2 ≤ 9223372036854775807 ∧ (n - 32 ≠ 0 → a2 = ⟨b, off + 32, none⟩)) := by
    rw [hW0]; exact open_ok b off cap n 32 l (bx3_bel w _ _ _) (bx3_new w _ _ _ _) (bx3_nd w _ _ _ _) (h.later (bx3_bel w _ _ _)) HN hs (by decide) (by decide)
  clear h
  go_enter Tryd.func28, Tryd.ntmps28
  go_wp2
  refine wp_scope_jumps 0 (fun _ _ => False) (fun _ _ => 0) rfl ?first ?pass
  case first =>
    go_wp2_with fail
    refine (HXs.out _).mono ?_
    rintro e W9 ⟨rfl, hw9⟩
    rw [hw9]; clear hw9 HXs
    go_wp2_with fail
    rw [← hW0]
    clear hW0
    refine HO.out.mono ?_
    rintro e W1 ⟨r, hh, ao', cap', a2, c2, rfl, h1, hc1, hc2, ha2⟩
    have H1 : Hid _ := h1
    have HA : Hid _ := ha2
    clear h1 HO ha2
    go_wp2_with fail
    refine (magic32_ok H1.out (by rw [List.length_take]; omega) mChunk64 (by rw [tk _ _ _ _ (by decide)]; exact HX0.out)).mono ?_
    rintro e W2 ⟨rfl, hx⟩
    have H2 : Hid _ := hx
    clear hx H1
    go_wp2_with fail
    refine (rx_u16 H2.out f HX1.out (by decide) hsl).mono ?_
    rintro e W3 ⟨rfl, hx⟩
    have H3 : Hid _ := hx
    clear hx H2
    go_wp2_with fail
    refine (rx_u16 H3.out t HX2.out (by decide) hsl).mono ?_
    rintro e W4 ⟨rfl, hx⟩
    have H4 : Hid _ := hx
    clear hx H3
    go_wp2_with fail
    refine (rx_u64 H4.out c HX3.out (by decide) hsl).mono ?_
    rintro e W5 ⟨rfl, hx⟩
    have H5 : Hid _ := hx
    clear hx H4
    obtain ⟨s0, u0⟩ := H5.out.b (.tail _ (.tail _ (.head _))) 0
    simp at s0
    obtain ⟨s1, u1⟩ := H5.out.b (.tail _ (.tail _ (.head _))) 1
    simp at s1
    obtain ⟨s2, u2⟩ := H5.out.b (.tail _ (.tail _ (.head _))) 2
    simp at s2
    go_wp2_with fail
    replace H5 : Hid _ := H5.out.putS 0 (.int .u16 (f : Int)) #[.int .u16 (f : Int), .int .u16 0, .int .u64 0, .int .u64 0, nilV] rfl
    replace H5 : Hid _ := H5.out.putS 1 (.int .u16 (t : Int)) #[.int .u16 (f : Int), .int .u16 (t : Int), .int .u64 0, .int .u64 0, nilV] rfl
    replace H5 : Hid _ := H5.out.putS 2 (.int .u64 (c : Int)) #[.int .u16 (f : Int), .int .u16 (t : Int), .int .u64 (c : Int), .int .u64 0, nilV] rfl
    refine (rx_u64 H5.out o HX4.out (by decide) hsl).mono ?_
    rintro e W6 ⟨rfl, hx⟩
    have H6 : Hid _ := hx
    clear hx H5 s0 u0 s1 u1 s2 u2
    obtain ⟨s3, u3⟩ := H6.out.b (.tail _ (.tail _ (.head _))) 3
    simp at s3
    go_wp2_with fail
    replace H6 : Hid _ := H6.out.putS 3 (.int .u64 (o : Int)) #[.int .u16 (f : Int), .int .u16 (t : Int), .int .u64 (c : Int), .int .u64 (o : Int), nilV] rfl
    refine (rx_number_wide H6.out k HX5.out (by decide) hsl).mono ?_
    rintro e W7 ⟨rfl, hx⟩
    have H7 : Hid _ := hx
    clear hx H6 s3 u3
    go_wp2_with fail
    refine (measure_rest H7.out (by decide) (by omega) k most hm4 hle N hN).mono ?_
    rintro e W8 hx
    have HX9 : Hid _ := hx
    clear hx H7 
    rcases HX9.out with ⟨hx, _⟩ | ⟨_, rfl, hx⟩
    · omega
    have H8 : Hid _ := hx
    clear hx HX9
    have hml : m.length = k := by rw [← hm, List.length_take, List.length_drop, HN.out]; omega
    have hmt : ∀ x ∈ m, x < 256 := fun x hx => HC.out.row.lt x (by rw [← hm] at hx; exact List.mem_of_mem_drop (List.mem_of_mem_take hx))
    have HDt : Hid _ := data_any (len := k) H8.out m hml hmt (by rw [← hm]; exact tail_news HC.out H8.out.bel (by rw [HN.out]; exact HA.out)) (by omega) hc1 (by omega) hc2
    have HB : Hid (w.heap.size + 1 + 1 < W8.heap.size) := by show _ < _; have h1 := block_lt H8.out.rd; have h2 := H8.out.hr; have h3 : w.heap.size + 1 + 1 < _ := (H8.out.box _ (.tail _ (.tail _ (.head _)))).2.2; omega
    clear H8 HX0 HX1 HX2 HX3 HX5 HN HC hml hmt HA HX4
    go_wp2_with fail
    refine Calls.mono HDt.out ?_
    rintro e W9 ⟨ao2, cap2, rfl, ho, hb, h9⟩
    have H9 : Hid _ := h9
    have HR : Hid (W9.ownsRow W8.heap.size 5 1 (.slice ao2 k cap2) k (m.map bv)) := ho
    clear h9 ho hb HDt
    obtain ⟨c10, f10⟩ := H9.out.b (.tail _ (.head _)) 0
    obtain ⟨c20, f20⟩ := H9.out.b (.tail _ (.tail _ (.head _))) 0
    obtain ⟨c11, f11⟩ := H9.out.b (.tail _ (.head _)) 1
    obtain ⟨c21, f21⟩ := H9.out.b (.tail _ (.tail _ (.head _))) 1
    obtain ⟨c12, f12⟩ := H9.out.b (.tail _ (.head _)) 2
    obtain ⟨c22, f22⟩ := H9.out.b (.tail _ (.tail _ (.head _))) 2
    obtain ⟨c13, f13⟩ := H9.out.b (.tail _ (.head _)) 3
    obtain ⟨c23, f23⟩ := H9.out.b (.tail _ (.tail _ (.head _))) 3
    obtain ⟨c14, f14⟩ := H9.out.b (.tail _ (.head _)) 4
    obtain ⟨c24, f24⟩ := H9.out.b (.tail _ (.tail _ (.head _))) 4
    simp at c10 c20 c11 c21 c12 c22 c13 c23 c14 c24
    go_wp2
    go_step3
    have HF : Hid _ := ((((((H9.out.putS 4 (.slice ao2 k cap2) #[.int .u16 (f : Int), .int .u16 (t : Int), .int .u64 (c : Int), .int .u64 (o : Int), .slice ao2 k cap2] rfl).putO 0 (.int .u16 (f : Int)) #[.int .u16 (f : Int), .int .u16 0, .int .u64 0, .int .u64 0, nilV] rfl).putO 1 (.int .u16 (t : Int)) #[.int .u16 (f : Int), .int .u16 (t : Int), .int .u64 0, .int .u64 0, nilV] rfl).putO 2 (.int .u64 (c : Int)) #[.int .u16 (f : Int), .int .u16 (t : Int), .int .u64 (c : Int), .int .u64 0, nilV] rfl).putO 3 (.int .u64 (o : Int)) #[.int .u16 (f : Int), .int .u16 (t : Int), .int .u64 (c : Int), .int .u64 (o : Int), nilV] rfl).putO 4 (.slice ao2 k cap2) #[.int .u16 (f : Int), .int .u16 (t : Int), .int .u64 (c : Int), .int .u64 (o : Int), .slice ao2 k cap2] rfl)
    have HW : Hid ((((((((W9.setCell ⟨w.heap.size + 1 + 1, 4, none⟩ (.slice ao2 k cap2)).setCell ⟨w.heap.size + 1, 0, none⟩ (.int .u16 (f : Int))).setCell ⟨w.heap.size + 1, 1, none⟩ (.int .u16 (t : Int))).setCell ⟨w.heap.size + 1, 2, none⟩ (.int .u64 (c : Int))).setCell ⟨w.heap.size + 1, 3, none⟩ (.int .u64 (o : Int))).setCell ⟨w.heap.size + 1, 4, none⟩ (.slice ao2 k cap2))).ownsRow W8.heap.size 5 1 (.slice ao2 k cap2) k (m.map bv)) := setAll_owns [(w.heap.size + 1 + 1, 4, .slice ao2 k cap2), (w.heap.size + 1, 0, .int .u16 (f : Int)), (w.heap.size + 1, 1, .int .u16 (t : Int)), (w.heap.size + 1, 2, .int .u64 (c : Int)), (w.heap.size + 1, 3, .int .u64 (o : Int)), (w.heap.size + 1, 4, .slice ao2 k cap2)] W9 HR.out (by have := HB.out; simp; omega)
    clear HR H9 c10 f10 c20 f20 c11 f11 c21 f21 c12 f12 c22 f22 c13 f13 c23 f23 c14 f14 c24 f24
    generalize ((((((W9.setCell ⟨w.heap.size + 1 + 1, 4, none⟩ (.slice ao2 k cap2)).setCell ⟨w.heap.size + 1, 0, none⟩ (.int .u16 (f : Int))).setCell ⟨w.heap.size + 1, 1, none⟩ (.int .u16 (t : Int))).setCell ⟨w.heap.size + 1, 2, none⟩ (.int .u64 (c : Int))).setCell ⟨w.heap.size + 1, 3, none⟩ (.int .u64 (o : Int))).setCell ⟨w.heap.size + 1, 4, none⟩ (.slice ao2 k cap2)) = Wx at *
    have hn1 : ¬ (w.heap.size = r) := (HF.out.lb.box _ (.head _)).2.2
    have hn2 : ¬ (r = w.heap.size) := fun e => hn1 e.symm
    have r3 := HF.out.lb.cn
    have r4 := HF.out.lb.ce
    obtain ⟨c00, f00⟩ := HF.out.b (.head _) 0
    obtain ⟨c10, f10⟩ := HF.out.b (.tail _ (.head _)) 0
    obtain ⟨c01, f01⟩ := HF.out.b (.head _) 1
    obtain ⟨c11, f11⟩ := HF.out.b (.tail _ (.head _)) 1
    obtain ⟨c02, f02⟩ := HF.out.b (.head _) 2
    obtain ⟨c12, f12⟩ := HF.out.b (.tail _ (.head _)) 2
    obtain ⟨c03, f03⟩ := HF.out.b (.head _) 3
    obtain ⟨c13, f13⟩ := HF.out.b (.tail _ (.head _)) 3
    obtain ⟨c04, f04⟩ := HF.out.b (.head _) 4
    obtain ⟨c14, f14⟩ := HF.out.b (.tail _ (.head _)) 4
    simp at c00 c10 c01 c11 c02 c12 c03 c13 c04 c14
    go_wp2
    go_region
    all_goals
      go_wp2
      rw [jump_ret]
      obtain ⟨HG, HW2, HB2⟩ := close5 (HF.out.box _ (.head _)).1 HF.out.bel HW.out (by have := HB.out; omega) (.int .u16 (f : Int)) (.int .u16 (t : Int)) (.int .u64 (c : Int)) (.int .u64 (o : Int)) (.slice ao2 k cap2)
      clear HF HW
      generalize (((((Wx.setCell ⟨w.heap.size, 0, none⟩ (.int .u16 (f : Int))).setCell ⟨w.heap.size, 1, none⟩ (.int .u16 (t : Int))).setCell ⟨w.heap.size, 2, none⟩ (.int .u64 (c : Int))).setCell ⟨w.heap.size, 3, none⟩ (.int .u64 (o : Int))).setCell ⟨w.heap.size, 4, none⟩ (.slice ao2 k cap2)).drew = Wz at HG HW2 HB2 ⊢
      exact bodyPost_ret (results_cell_tmp2 rfl _ Wz w.heap.size 85 #[.int .u16 (f : Int), .int .u16 (t : Int), .int .u64 (c : Int), .int .u64 (o : Int), .slice ao2 k cap2] (0, 0) _ rfl HG Tryd.underlying85 rfl infoChk) rfl ⟨_, _, rfl, owns_mono HW2 (by have := HB.out; omega), HB2⟩
  case pass =>
    rintro a W hf
    exact hf.elim
end Go.Proofs.YtjikibhhhchgeaaDoor

namespace Go.Proofs.YtjikibhhhchgeaaDoor
open Go.RowKit
set_option linter.unusedVariables false
set_option linter.unusedSimpArgs false
set_option maxRecDepth 100000
set_option maxHeartbeats 400000 in
theorem same8_true (ao bo : Option Addr) (cap cap' n : Nat) (l : List Nat) (w : World) (h : BRow w ao cap l) (h' : BRow w bo cap' l) (hn : l.length = n) :
    Calls Tryd.prog 9 #[.slice ao n cap, .slice bo n cap'] w fun e w' => e = .returned (.bool true) ∧ Below w.heap.size w w' := by
  have H1 : Hid (Calls Tryd.prog 98 #[.slice ao n cap, .slice bo n cap'] w fun e w' => e = .returned (.bool true) ∧ ∃ q, w' = w.drewN q) := by
    have := same_any ao bo cap cap' l l w h h'
    rw [hn] at this
    simp at this
    exact this
  clear h h'
  have H2 : Hid (Calls Tryd.prog 47 #[.slice ao n cap, .slice bo n cap'] w fun e w' => e = .returned (.bool true) ∧ ∃ q, w' = w.drewN q) := by
    show Calls _ _ _ _ _
    go_enter Tryd.func47, Tryd.ntmps47
    go_wp2_with fail
    refine H1.out.mono ?_
    rintro e w1 ⟨rfl, q, hw⟩
    rw [hw]; clear hw
    go_wp2
    go_ret
    exact ⟨rfl, q, rfl⟩
  clear H1
  go_enter Tryd.func9, Tryd.ntmps9
  go_wp2_with fail
  refine H2.out.mono ?_
  rintro e w1 ⟨rfl, q, hw⟩
  rw [hw]; clear hw
  go_wp2
  go_ret
  exact ⟨rfl, ⟨rfl, rfl, rfl, Nat.le_refl _, fun _ _ => rfl⟩⟩
/-- a row of one's own between two numbers of blocks -/
structure RowAt (W : World) (lo hi : Nat) (ao : Option Addr) (n cap : Nat) (l : List Nat) : Prop where
  own : W.ownsRow lo 5 1 (.slice ao n cap) n (l.map bv)
  lt : ∀ x ∈ l, x < 256
  hi : ∀ g, (Value.slice ao n cap).ownBlock = some g → g < hi
  len : l.length = n
theorem RowAt.later {W W' : World} {lo hi : Nat} {ao : Option Addr} {n cap : Nat} {l : List Nat} (h : RowAt W lo hi ao n cap l) (hb : Below W.heap.size W W') : RowAt W' lo hi ao n cap l :=
  ⟨owns_same h.own fun g hg => hb.block g (owns_lt h.own g hg).1, h.lt, h.hi, h.len⟩
theorem RowAt.grown {W W' : World} {lo hi : Nat} {ao : Option Addr} {n cap : Nat} {l : List Nat} (h : RowAt W lo hi ao n cap l) {blk : Option Nat} (hg : W.grownBy W' blk) (hd : ∀ g, blk = some g → g < lo ∨ hi ≤ g) : RowAt W' lo hi ao n cap l :=
  ⟨owns_same h.own fun g hg' => hg.block g (owns_lt h.own g hg').1 (fun e => by have h1 := (owns_lt h.own g hg').2; have h2 := h.hi g hg'; rcases hd g e.symm with h3 | h3 <;> omega), h.lt, h.hi, h.len⟩
theorem RowAt.brow {W : World} {lo hi : Nat} {ao : Option Addr} {n cap : Nat} {l : List Nat} (h : RowAt W lo hi ao n cap l) (hl : n ≤ 140737488351232) : BRow W ao cap l := by
  have hlen := h.len
  subst hlen
  obtain ⟨ao', cap', hv, hb⟩ := BRow.own h.own h.lt hl
  simp only [Value.slice.injEq] at hv
  obtain ⟨rfl, _, rfl⟩ := hv
  exact hb
theorem Row.at {w w' : World} {ao : Option Addr} {cap n : Nat} {l : List Nat} (h : Row w w' ao cap l) (hn : l.length = n) : RowAt w' w.heap.size w'.heap.size ao n cap l := by
  subst hn
  exact ⟨h.own, h.lt, fun g hg => (owns_lt h.own g hg).1, rfl⟩
theorem crow_of {W : World} {B : Nat} {ao : Option Addr} {n cap : Nat} {l : List Nat} (h : W.ownsRow B 5 1 (.slice ao n cap) n (l.map bv)) (hlt : ∀ x ∈ l, x < 256) (hl : l.length = n) (hn : n ≤ 140737488351232) : CRow W ao cap l := by
  subst hl
  obtain ⟨ao', cap', hv, hb⟩ := BRow.own h hlt hn
  simp only [Value.slice.injEq] at hv
  obtain ⟨rfl, _, rfl⟩ := hv
  exact ⟨hb, (owns_cap h).1, (owns_cap h).2⟩
def kC (f t c o : Nat) (d : List Nat) (ext : Bool) : List Nat := if ext = true then cL64 f t c o d else cL f t c d
theorem encChunkC (f t c o : Nat) (ao : Option Addr) (cap : Nat) (d : List Nat) (ext : Bool) (w : World) (hf : f < 65536) (ht : t < 65536) (hc : c < 18446744073709551616) (ho : o < 18446744073709551616) (hd : BRow w ao cap d) (hn : d.length < 4294967296) :
    Calls Tryd.prog 27 #[.agg #[.int .u16 (f : Int), .int .u16 (t : Int), .int .u64 (c : Int), .int .u64 (o : Int), .slice ao d.length cap], .bool ext] w fun e w' => ∃ ao' cap', e = .returned (.slice ao' (kC f t c o d ext).length cap') ∧ Row w w' ao' cap' (kC f t c o d ext) := by
  cases ext with
  | true => exact encChunk_true f t c o ao cap d w hf ht hc ho hd (by omega)
  | false => exact encChunk_false f t c o ao cap d w hf ht hc ho hd (by omega)
theorem rChunkC (f t c o : Nat) (ao : Option Addr) (cap : Nat) (d : List Nat) (ext : Bool) (w : World) (hf : f < 65536) (ht : t < 65536) (hc : c < 18446744073709551616) (ho : o < 18446744073709551616) (hd : BRow w ao cap d) (hn : d.length < 4294967296) :
    Calls Tryd.prog 30 #[.agg #[.int .u16 (f : Int), .int .u16 (t : Int), .int .u64 (c : Int), .int .u64 (o : Int), .slice ao d.length cap], .bool ext] w fun e w' => ∃ ao' cap', e = .returned (.slice ao' (kC f t c o d ext).length cap') ∧ Row w w' ao' cap' (kC f t c o d ext) := by
  cases ext with
  | true => exact rChunk_true f t c o ao cap d w hf ht hc ho hd hn
  | false => exact rChunk_false f t c o ao cap d w hf ht hc ho hd hn
theorem val_of {l pre tl : List Nat} (x k a : Nat) (h : l = pre ++ (bigTo x k k ++ tl)) (ha : pre.length = a) (hx : x < 256 ^ k) : valB ((l.drop a).take k) = x := by
  rw [h, ← ha, List.drop_left, List.take_append_of_le_length (by rw [bigTo_length]; omega), List.take_of_length_le (by rw [bigTo_length]; omega), valB_big x k hx]
theorem tail_of {l pre d m : List Nat} {k : Nat} (a : Nat) (h : l = pre ++ (d ++ m)) (ha : pre.length = a) (hk : d.length = k) : (l.drop a).take k = d := by
  rw [h, ← ha, List.drop_left, ← hk, List.take_append_of_le_length (Nat.le_refl _), List.take_of_length_le (Nat.le_refl _)]
theorem kC_len (f t c o : Nat) (d : List Nat) (ext : Bool) : (kC f t c o d ext).length = (if ext = true then 32 else 20) + d.length := by
  cases ext <;> simp [kC, cL64, cL, nL, bigTo_length] <;> omega
/-- a chunk that was laid down, read -/
theorem decK (f t c o : Nat) (d : List Nat) (ext : Bool) (b off cap n k : Nat) (w : World) (hf : f < 65536) (ht : t < 65536) (hc : c < 18446744073709551616) (ho : o < 18446744073709551616) (hk : d.length = k) (hk1 : k ≤ 1099511627776) (hk2 : k < 4294967296) (h : CRow w (some ⟨b, off, none⟩) cap (kC f t c o d ext)) (hn : (kC f t c o d ext).length = n) :
    Calls Tryd.prog 28 #[.slice (some ⟨b, off, none⟩) n cap, .int .u32 (k : Int), .bool ext] w fun e w' => ∃ (x y : Nat) (ao2 : Option Addr) (cap2 : Nat), e = .returned (.tuple #[.agg #[.int .u16 (f : Int), .int .u16 (t : Int), .int .u64 (c : Int), .int .u64 (x : Int), .slice ao2 k cap2], .int .i64 (y : Int), .int .i64 0]) ∧ w'.ownsRow w.heap.size 5 1 (.slice ao2 k cap2) k (d.map bv) ∧ Below w.heap.size w w' := by
  have hl := kC_len f t c o d ext
  rw [hn] at hl
  have hmod : k % 4294967296 = k := Nat.mod_eq_of_lt hk2
  cases ext with
  | false =>
    simp only [Bool.false_eq_true, if_false] at hl
    have hx : kC f t c o d false = (bigTo mChunk 4 4 ++ (bigTo f 2 2 ++ (bigTo t 2 2 ++ (bigTo c 8 8 ++ (bigTo k 4 4 ++ (d ++ [])))))) := by simp [kC, cL64, cL, nL, hk, hmod]
    refine Calls.mono (decChunk0_ok b off cap n _ k f t c k w h (show Hid (_ = n) from hn) (by omega) (show valB _ = _ from val_of (pre := ([] : List Nat)) (tl := (bigTo f 2 2 ++ (bigTo t 2 2 ++ (bigTo c 8 8 ++ (bigTo k 4 4 ++ (d ++ [])))))) mChunk 4 0 (hx.trans (by simp)) (by simp [bigTo_length]) (by decide)) (show valB _ = _ from val_of (pre := (bigTo mChunk 4 4)) (tl := (bigTo t 2 2 ++ (bigTo c 8 8 ++ (bigTo k 4 4 ++ (d ++ []))))) f 2 4 (hx.trans (by simp)) (by simp [bigTo_length]) (by simpa using hf)) (show valB _ = _ from val_of (pre := (bigTo mChunk 4 4 ++ bigTo f 2 2)) (tl := (bigTo c 8 8 ++ (bigTo k 4 4 ++ (d ++ [])))) t 2 6 (hx.trans (by simp)) (by simp [bigTo_length]) (by simpa using ht)) (show valB _ = _ from val_of (pre := (bigTo mChunk 4 4 ++ bigTo f 2 2 ++ bigTo t 2 2)) (tl := (bigTo k 4 4 ++ (d ++ []))) c 8 8 (hx.trans (by simp)) (by simp [bigTo_length]) (by simpa using hc)) (show valB _ = _ from val_of (pre := (bigTo mChunk 4 4 ++ bigTo f 2 2 ++ bigTo t 2 2 ++ bigTo c 8 8)) (tl := (d ++ [])) k 4 16 (hx.trans (by simp)) (by simp [bigTo_length]) (by omega)) (by omega) hk2 (Nat.le_refl _) (by omega) _ rfl d (tail_of (m := []) (pre := (bigTo mChunk 4 4 ++ bigTo f 2 2 ++ bigTo t 2 2 ++ bigTo c 8 8 ++ bigTo k 4 4)) 20 (hx.trans (by simp)) (by simp [bigTo_length]) hk)) ?_
    rintro e w' ⟨ao2, cap2, rfl, ho2, hb⟩
    exact ⟨0, _, _, _, rfl, ho2, hb⟩
  | true =>
    simp only [if_true] at hl
    have hx : kC f t c o d true = (bigTo mChunk64 4 4 ++ (bigTo f 2 2 ++ (bigTo t 2 2 ++ (bigTo c 8 8 ++ (bigTo o 8 8 ++ (bigTo k 8 8 ++ (d ++ []))))))) := by simp [kC, cL64, cL, nL, hk, hmod]
    refine Calls.mono (decChunk1_ok b off cap n _ k f t c o k w h (show Hid (_ = n) from hn) (by omega) (show valB _ = _ from val_of (pre := ([] : List Nat)) (tl := (bigTo f 2 2 ++ (bigTo t 2 2 ++ (bigTo c 8 8 ++ (bigTo o 8 8 ++ (bigTo k 8 8 ++ (d ++ []))))))) mChunk64 4 0 (hx.trans (by simp)) (by simp [bigTo_length]) (by decide)) (show valB _ = _ from val_of (pre := (bigTo mChunk64 4 4)) (tl := (bigTo t 2 2 ++ (bigTo c 8 8 ++ (bigTo o 8 8 ++ (bigTo k 8 8 ++ (d ++ [])))))) f 2 4 (hx.trans (by simp)) (by simp [bigTo_length]) (by simpa using hf)) (show valB _ = _ from val_of (pre := (bigTo mChunk64 4 4 ++ bigTo f 2 2)) (tl := (bigTo c 8 8 ++ (bigTo o 8 8 ++ (bigTo k 8 8 ++ (d ++ []))))) t 2 6 (hx.trans (by simp)) (by simp [bigTo_length]) (by simpa using ht)) (show valB _ = _ from val_of (pre := (bigTo mChunk64 4 4 ++ bigTo f 2 2 ++ bigTo t 2 2)) (tl := (bigTo o 8 8 ++ (bigTo k 8 8 ++ (d ++ [])))) c 8 8 (hx.trans (by simp)) (by simp [bigTo_length]) (by simpa using hc)) (show valB _ = _ from val_of (pre := (bigTo mChunk64 4 4 ++ bigTo f 2 2 ++ bigTo t 2 2 ++ bigTo c 8 8)) (tl := (bigTo k 8 8 ++ (d ++ []))) o 8 16 (hx.trans (by simp)) (by simp [bigTo_length]) (by simpa using ho)) (show valB _ = _ from val_of (pre := (bigTo mChunk64 4 4 ++ bigTo f 2 2 ++ bigTo t 2 2 ++ bigTo c 8 8 ++ bigTo o 8 8)) (tl := (d ++ [])) k 8 24 (hx.trans (by simp)) (by simp [bigTo_length]) (by omega)) (by omega) hk2 (Nat.le_refl _) (by omega) _ rfl d (tail_of (m := []) (pre := (bigTo mChunk64 4 4 ++ bigTo f 2 2 ++ bigTo t 2 2 ++ bigTo c 8 8 ++ bigTo o 8 8 ++ bigTo k 8 8)) 32 (hx.trans (by simp)) (by simp [bigTo_length]) hk)) ?_
    rintro e w' ⟨ao2, cap2, rfl, ho2, hb⟩
    exact ⟨o, _, _, _, rfl, ho2, hb⟩
end Go.Proofs.YtjikibhhhchgeaaDoor
