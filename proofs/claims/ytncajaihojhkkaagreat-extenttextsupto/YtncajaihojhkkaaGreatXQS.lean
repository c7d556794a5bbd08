import Derived.Test.YtncajaihojhkkaaGreatXPS
import Derived.RangeFuncNested
import Derived.RangeFuncBound
import Derived.RangeFuncCalls
import Derived.RangeFuncLeaves
import Derived.Shelf.Abstract
import Derived.Shelf.RegionOpen
import Derived.OwnWalkIn
import Derived.TacticsInMore
import Derived.LoopNIn
import Derived.LoopIn
namespace Go.Proofs.YtncajaihojhkkaaGreat.S
open Go.RowKit Go.Sort Go.Shelf
attribute [local go_sem] Oper.semAt_some
set_option linter.unusedVariables false
set_option linter.unusedSimpArgs false
set_option maxRecDepth 100000

/-- every block of runs is kept -/
def KeepR (W W' : World) : Prop := ∀ (k : Nat) (cur : Array Value) (fr : Nat × Nat), W.heap[k]? = some (.cells cur TRun fr) → W'.heap[k]? = some (.cells cur TRun fr)
theorem keepR_t {A B C : World} (h : KeepR A B) (k : KeepR B C) : KeepR A C := fun i cur fr hi => k i cur fr (h i cur fr hi)
theorem keepR_b {w : World} (W : World) (l : Nat) (o o' : Obj) (_ : w.heap.size ≤ l) (h : W.heap[l]? = some o) (hc : o.isCells = false) (_ : o.isWalk = false) : KeepR W (W.putObj l o') := fun i cur fr hi => by
  have hne : i ≠ l := by
    rintro rfl
    rw [h] at hi
    cases hi
    simp [Obj.isCells] at hc
  exact (World.putObj_heap_other hne).trans hi
theorem keepR_below {W W' : World} (h : Below W.heap.size W W') : KeepR W W' := fun i cur fr hi => (h.block i (Array.getElem?_eq_some_iff.1 hi).1).trans hi

theorem runs_any (w : World) (m : Option Addr) (lo hi : Int) : Calls Tryz.prog 14 #[.pointer m, .int .i64 lo, .int .i64 hi] w fun e w' =>
    e = .returned (.func (.func 26) #[] #[.pointer (some ⟨w.heap.size, 0, none⟩), .pointer (some ⟨w.heap.size + 1, 0, none⟩), .pointer (some ⟨w.heap.size + 2, 0, none⟩)]) ∧ w' = ((w.alloc (.cells #[.pointer m] 24)).alloc (.cells #[.int .i64 lo] 2)).alloc (.cells #[.int .i64 hi] 2) := by
  have hmf : ∀ (fn : Fn) (first cap : Array Value) (w : World), (Instr.makeFunc fn first cap).run Tryz.prog w = .ok (.func fn first cap) w := fun _ _ _ _ => rfl
  go_enter Tryz.func14, Tryz.ntmps14
  go_wp2
  go_ret
  exact ⟨rfl, rfl⟩
abbrev encR (r : Rn ByteArray) : Array Value := #[.agg #[.int .i64 r.lo, .int .i64 r.hi, .string r.v]]

set_option maxHeartbeats 4000000 in
/-- what Runs gives to range over -/
theorem runs1_stops (n : Nat) (hn : 2 ≤ n) {w : World} {b0 b1 b2 bm g cap : Nat} {size : Int} {rs : List (Rn ByteArray)} (h : RM w bm g cap size rs) (hs : size ≤ 1099511627776) (lo hi lo' hi' : Int) (e1 : lo' = max lo 0) (e2 : hi' = min hi size) (hlt : lo' < hi')
    (c0 : w.cell? ⟨b0, 0, none⟩ = some (.pointer (some ⟨bm, 0, none⟩))) (c1 : w.cell? ⟨b1, 0, none⟩ = some (.int .i64 lo)) (c2 : w.cell? ⟨b2, 0, none⟩ = some (.int .i64 hi)) :
    SeqStopsK Fence.wide n Tryz.prog 26 #[.pointer (some ⟨b0, 0, none⟩), .pointer (some ⟨b1, 0, none⟩), .pointer (some ⟨b2, 0, none⟩)] encR KeepR (fun xs => xs = cut rs lo' hi') (fun pre => ∃ rest, cut rs lo' hi' = pre ++ rest) (cut rs lo' hi').length w := by
  intro l J Jx W hW hJ hJx hY h0
  have HP := part_any (h.later hW) hs lo hi lo' hi' e1 e2 hlt
  have d0 := cell_later hW c0
  have d1 := cell_later hW c1
  have d2 := cell_later hW c2
  obtain ⟨xs, hxs⟩ : ∃ xs, xs = cut rs lo' hi' := ⟨_, rfl⟩
  rw [← hxs] at HP hY ⊢
  have HX : Hid (xs = cut rs lo' hi') := hxs
  obtain ⟨m, hm⟩ : ∃ m, m = xs.length := ⟨_, rfl⟩
  rw [← hm] at HP hY
  have HM : Hid (m = xs.length) := hm
  clear hm hxs e1 e2 c0 c1 c2
  have hf : Fence.wide.fn 26 := trivial
  have hf2 : Fence.wide.fn 27 := trivial
  have hml : m ≤ 1099511627776 := by
    have h1 := h.tiles.length
    have h2 : xs.length ≤ rs.length := by
      rw [HX.out]; unfold cut; rw [setHi_length, setLo_length, List.length_take, List.length_drop]; omega
    rw [HM.out]; omega
  clear h
  refine callsIn_of_wp Tryz.func26 rfl hf ?_ rfl
  simp only [Tryz.ntmps26, List.size_toArray, List.length_cons, List.length_nil, Nat.reduceAdd, Nat.reduceSub, Array.replicate_succ, Array.replicate_zero, List.push_toArray, List.append_toArray, List.nil_append, List.cons_append]
  have h1 : 1 ≤ n := by omega
  have h1' : 1 ≤ n - 1 := by omega
  gi_wp2_with (gi_at_call 27; refine (callsIn_wide.2 HP).mono ?_; rintro e w1 ⟨gv, c, rfl, hown, hb⟩)
  have hJ1 : J [] w1 := hJ [] W w1 none h0 ⟨hb.os, hb.tape, hb.output, hb.size, fun k hk _ => hb.block k hk⟩ (fun r e => by cases e)
  obtain ⟨cur, fr, hblk, hcells⟩ : ∃ cur fr, w1.heap[gv]? = some (.cells cur TRun fr) ∧ ∀ (k : Nat) (x : Rn ByteArray), xs[k]? = some x → cur[k * 3]? = some (.int .i64 x.lo) ∧ cur[k * 3 + 1]? = some (.int .i64 x.hi) ∧ cur[k * 3 + 2]? = some (.string x.v) := by
    rw [HM.out] at hown
    rcases hown.2 with ⟨h', _⟩ | ⟨g', cap', cur, h', _, hg, _, _, _, ht⟩
    · simp at h'
    · simp only [Value.slice.injEq, Option.some.injEq, Addr.mk.injEq, and_true, true_and] at h'
      obtain ⟨rfl, rfl⟩ := h'
      refine ⟨cur, _, hg, fun k x hx => ?_⟩
      have hk := (List.getElem?_eq_some_iff.1 hx).1
      have key : ∀ j, j < 3 → cur[k * 3 + j]? = (rcell E x)[j]? := fun j hj => by
        have h1 := rcells_get E xs k x hx j hj
        rw [← ht, List.getElem?_take, if_pos (by omega)] at h1
        rw [← h1]; simp
      exact ⟨key 0 (by omega), key 1 (by omega), key 2 (by omega)⟩
  have HB : Hid (w1.heap[gv]? = some (.cells cur TRun fr)) := hblk
  have HC : Hid (∀ (k : Nat) (x : Rn ByteArray), xs[k]? = some x → cur[k * 3]? = some (.int .i64 x.lo) ∧ cur[k * 3 + 1]? = some (.int .i64 x.hi) ∧ cur[k * 3 + 2]? = some (.string x.v)) := hcells
  clear hblk hcells hown HP d0 d1 d2
  gi_wp2
  gi_loopw [12] (fun i wr => ∃ (k : Nat), i = .int .i64 k ∧ k ≤ m ∧ Hid (wr.heap[gv]? = some (.cells cur TRun fr)) ∧ Hid (J (xs.take k) wr)) (fun i _ => m - (intOf i).toNat)
  case atStart => exact ⟨0, rfl, Nat.zero_le _, HB, hJ1⟩
  case round =>
    obtain ⟨k, rfl, hk, HBk, HJk⟩ := hrel
    by_cases hlt2 : k < m
    · obtain ⟨x, hx⟩ : ∃ x, xs[k]? = some x := ⟨_, List.getElem?_eq_getElem (by have := HM.out; omega)⟩
      obtain ⟨y0, y1, y2⟩ := HC.out k x hx
      have z0 : wr.cell? ⟨gv, k * 3, none⟩ = some (.int .i64 x.lo) := by unfold World.cell?; simp only [HBk.out]; simpa using y0
      have z1 : wr.cell? ⟨gv, k * 3 + 1, none⟩ = some (.int .i64 x.hi) := by unfold World.cell?; simp only [HBk.out]; simpa using y1
      have z2 : wr.cell? ⟨gv, k * 3 + 2, none⟩ = some (.string x.v) := by unfold World.cell?; simp only [HBk.out]; simpa using y2
      have hkz : (k : Int) < (m : Int) := by omega
      have HT : Hid (xs.take k ++ [x] = xs.take (k + 1)) := by
        show _ = _
        rw [List.take_add_one, hx]; rfl
      have HX2 : Hid (xs[k]? = some x) := hx
      have hJa : J (xs.take k) (wr.alloc (.cells #[.int .i64 x.lo, .int .i64 x.hi, .string x.v] TRun)) := hJ _ wr _ none HJk.out (World.grownBy_alloc wr _ none) (fun r e => by cases e)
      have hlen : (xs.take k).length < m := by rw [List.length_take]; have := HM.out; omega
      obtain ⟨fn, tmps, assign, body, hy, hR⟩ := hY (xs.take k) x _ hJa hlen
      have HB2 : Hid ((wr.alloc (.cells #[.int .i64 x.lo, .int .i64 x.hi, .string x.v] TRun)).heap[gv]? = some (.cells cur TRun fr)) := (Below.heap_alloc wr _ gv (Array.getElem?_eq_some_iff.1 HBk.out).1).trans HBk.out
      rw [HT.out] at hR
      clear hx hJa hlen hY y0 y1 y2
      gi_wp2
      refine hR.mono ?_
      rintro e W3 (⟨rfl, hJ3, hk3⟩ | ⟨rfl, hJx3⟩)
      · have HB3 : Hid (W3.heap[gv]? = some (.cells cur TRun fr)) := hk3 _ _ _ HB2.out
        gi_wp2
        go_roundw
        case rel => exact ⟨k + 1, by go_num, by omega, HB3, hJ3⟩
        case measure => simp [intOf]; omega
      · gi_wp2
        refine bodyPost_ret (results_none rfl _ _ _) rfl ?_
        exact ⟨⟨_, rfl⟩, .inr ⟨xs.take (k + 1), ⟨xs.drop (k + 1), (List.take_append_drop _ _).symm⟩, hJx3⟩⟩
    · have e : k = m := by omega
      subst e
      have HE : Hid (xs.take k = xs) := by rw [HM.out]; exact List.take_length
      rw [HE.out] at HJk
      gi_wp2
      go_end0
      exact ⟨⟨_, rfl⟩, .inl ⟨xs, rfl, HJk.out⟩⟩
end Go.Proofs.YtncajaihojhkkaaGreat.S
