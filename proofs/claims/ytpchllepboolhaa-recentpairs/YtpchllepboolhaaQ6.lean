import Derived.Test.YtpchllepboolhaaQ1
import Derived.Test.YtpchllepboolhaazRAI
import Derived.Deep.AppendLies
import Derived.Deep.RegionHeld3
import Derived.Deep.DrawnRows
import Derived.Maps.AppendAt
namespace Go.Proofs.Ytpchllepboolhaa.D
open Go.RowKit Go.Proofs.Ytpchllepboolhaa.I
attribute [local go_sem] Oper.semAt_some
set_option linter.unusedVariables false
set_option linter.unusedSimpArgs false
set_option maxRecDepth 100000

abbrev TDo : TypeId := 28
abbrev TIt : TypeId := 86
abbrev TIts : TypeId := 26
theorem infoIt : (Try.prog.info? TIt).map (fun i => (i.zero, i.size, i.bytes)) = some (some (.agg #[.int .i64 0, .int .i64 0]), 2, 16) := by kernel_rfl
/-- the document's order in memory -/
structure RD (w : World) (bd : Nat) (md : Bool) (v : Value) (A : List It) : Prop where
  blk : w.heap[bd]? = some (.cells #[.bool md, v] TDo (0, 0))
  row : w.ownsRow 0 TIt 2 v A.length (icells A)
  pm : ∀ x ∈ A, x.2 ≤ 2147483647
  len : A.length ≤ 8796093022208
def fpd (bd : Nat) (v : Value) : List Nat := bd :: v.ownBlock.toList
theorem RD.lt {w : World} {bd : Nat} {md : Bool} {v : Value} {A : List It} (h : RD w bd md v A) : ∀ i ∈ fpd bd v, i < w.heap.size := by
  intro i hi
  simp only [fpd, List.mem_cons, Option.mem_toList] at hi
  rcases hi with rfl | hi
  · exact (Array.getElem?_eq_some_iff.1 h.blk).1
  · exact (h.row.lt i hi).2
theorem RD.same {w w' : World} {bd : Nat} {md : Bool} {v : Value} {A : List It} (h : RD w bd md v A) (hs : ∀ i ∈ fpd bd v, w'.heap[i]? = w.heap[i]?) : RD w' bd md v A := by
  refine ⟨(hs bd (by simp [fpd])).trans h.blk, ⟨h.row.1, ?_⟩, h.pm, h.len⟩
  rcases h.row.2 with h0 | ⟨g, cap, cur, hv, hb, hg, rest⟩
  · exact .inl h0
  · exact .inr ⟨g, cap, cur, hv, hb, (hs g (by simp [fpd, hv, Value.ownBlock])).trans hg, rest⟩
theorem RD.later {w w' : World} {bd : Nat} {md : Bool} {v : Value} {A : List It} (h : RD w bd md v A) (hb : Below w.heap.size w w') : RD w' bd md v A := h.same fun i hi => hb.block i (h.lt i hi)
theorem RD.kept {w w' : World} {bd : Nat} {md : Bool} {v : Value} {A : List It} {F : List Nat} (h : RD w bd md v A) (hk : Kp w w' F) (hd : ∀ i ∈ fpd bd v, i ∉ F) : RD w' bd md v A := h.same fun i hi => hk.block i (h.lt i hi) (hd i hi)
theorem RD.c0 {w : World} {bd : Nat} {md : Bool} {v : Value} {A : List It} (h : RD w bd md v A) : w.cell? ⟨bd, 0, none⟩ = some (.bool md) := (cell_of h.blk).trans rfl
theorem RD.c1 {w : World} {bd : Nat} {md : Bool} {v : Value} {A : List It} (h : RD w bd md v A) : w.cell? ⟨bd, 1, none⟩ = some v := (cell_of h.blk).trans rfl
theorem RD.f1 {w : World} {bd : Nat} {md : Bool} {v : Value} {A : List It} (h : RD w bd md v A) : w.frozen? ⟨bd, 1, none⟩ = false := frozen_of h.blk
/-- items in a slice -/
structure TRow (w : World) (ao : Option Addr) (l : List It) : Prop where
  c : ∀ k x, l[k]? = some x → ∃ b, ao = some ⟨b, 0, none⟩ ∧ w.cell? ⟨b, k * 2, none⟩ = some (.int .i64 x.1) ∧ w.cell? ⟨b, k * 2 + 1, none⟩ = some (.int .i64 x.2) ∧ w.frozen? ⟨b, k * 2 + 1, none⟩ = false
theorem trow_of {W : World} {B : Nat} {v : Value} {ks : List It} (h : W.ownsRow B TIt 2 v ks.length (icells ks)) : ∃ ao cap, v = .slice ao ks.length cap ∧ TRow W ao ks := by
  rcases h.2 with ⟨rfl, h0⟩ | ⟨gv, cap, cur, rfl, hb, hg, hc, _, hsz, ht⟩
  · exact ⟨none, 0, by rw [h0], by rw [List.length_eq_zero_iff.1 h0]; exact ⟨fun k x hx => by simp at hx⟩⟩
  · refine ⟨_, cap, rfl, ⟨fun k x hx => ⟨gv, rfl, ?_, ?_, frozen_of hg⟩⟩⟩
    all_goals
      have hk := (List.getElem?_eq_some_iff.1 hx).1
      have h1 := icells_get ks k x hx
      rw [← ht, List.getElem?_take, if_pos (by omega), List.getElem?_take, if_pos (by omega)] at h1
      rw [cell_of hg]
    · simpa using h1.1
    · simpa using h1.2

theorem at_no {w : World} {bd : Nat} {md : Bool} {v : Value} {A : List It} (h : RD w bd md v A) (k : Int) (hn : Hid (∀ x ∈ A, x.1 ≠ k)) :
    Calls Try.prog 58 #[.pointer (some ⟨bd, 0, none⟩), .int .i64 k] w fun r w' => r = .returned (.int .i64 (-1)) ∧ w' = w := by
  have hc1 := h.c1
  obtain ⟨ao, cap, rfl, ht⟩ := trow_of h.row
  have hl := h.len
  have HT : Hid (TRow w ao A) := ht
  obtain ⟨m, hm⟩ : ∃ m, m = A.length := ⟨_, rfl⟩
  rw [← hm] at hc1 hl
  have HM : Hid (m = A.length) := hm
  clear h ht hm
  go_enter Try.func58, Try.ntmps58
  go_wp2
  go_loop [5] (fun i => ∃ j : Nat, j ≤ m ∧ i = .int .i64 j) (fun i => m - (intOf i).toNat)
  case atStart => exact ⟨0, Nat.zero_le _, rfl⟩
  case round =>
    obtain ⟨j, hj, rfl⟩ := hrel
    by_cases hlt : j < m
    · obtain ⟨x, hx⟩ : ∃ x, A[j]? = some x := ⟨_, List.getElem?_eq_getElem (by have := HM.out; omega)⟩
      obtain ⟨b, rfl, c0, c1, _⟩ := HT.out.c j x hx
      have hne : (x.1 == k) = false := by simpa using hn.out x (List.mem_of_getElem? hx)
      have d1 : (j : Int) < (m : Int) := by omega
      clear hx
      go_wp2
      go_round
      case rel => exact ⟨j + 1, by omega, by go_num⟩
      case measure => simp [intOf]; omega
    · go_wp2
      go_ret
      exact ⟨rfl, rfl⟩
theorem at_in {w : World} {bd : Nat} {md : Bool} {v : Value} {A1 A2 : List It} {k : Int} {p : Nat} (h : RD w bd md v (A1 ++ (k, p) :: A2)) (hn : Hid (∀ x ∈ A1, x.1 ≠ k)) :
    Calls Try.prog 58 #[.pointer (some ⟨bd, 0, none⟩), .int .i64 k] w fun r w' => r = .returned (.int .i64 A1.length) ∧ w' = w := by
  have hc1 := h.c1
  obtain ⟨ao, cap, rfl, ht⟩ := trow_of h.row
  have hl := h.len
  have HT : Hid (TRow w ao (A1 ++ (k, p) :: A2)) := ht
  obtain ⟨m, hm⟩ : ∃ m, m = (A1 ++ (k, p) :: A2).length := ⟨_, rfl⟩
  rw [← hm] at hc1 hl
  have HM : Hid (m = (A1 ++ (k, p) :: A2).length) := hm
  obtain ⟨q, hq⟩ : ∃ q, q = A1.length := ⟨_, rfl⟩
  have hqm : q < m := by rw [hq, hm]; simp
  have HQ : Hid (q = A1.length) := hq
  rw [← hq]
  clear h ht hm hq
  go_enter Try.func58, Try.ntmps58
  go_wp2
  go_loop [5] (fun i => ∃ j : Nat, j ≤ q ∧ i = .int .i64 j) (fun i => q - (intOf i).toNat)
  case atStart => exact ⟨0, Nat.zero_le _, rfl⟩
  case round =>
    obtain ⟨j, hj, rfl⟩ := hrel
    obtain ⟨x, hx⟩ : ∃ x, (A1 ++ (k, p) :: A2)[j]? = some x := ⟨_, List.getElem?_eq_getElem (by have := HM.out; omega)⟩
    obtain ⟨b, rfl, c0, c1, _⟩ := HT.out.c j x hx
    have d1 : (j : Int) < (m : Int) := by omega
    by_cases hlt : j < q
    · have hne : (x.1 == k) = false := by
        have := HQ.out
        rw [List.getElem?_append_left (by omega)] at hx
        simpa using hn.out x (List.mem_of_getElem? hx)
      clear hx
      go_wp2
      go_round
      case rel => exact ⟨j + 1, by omega, by go_num⟩
      case measure => simp [intOf]; omega
    · have e : j = q := by omega
      subst e
      have hxk : x = (k, p) := by
        rw [HQ.out, List.getElem?_append_right (Nat.le_refl _)] at hx
        simpa using hx.symm
      subst hxk
      clear hx
      simp only at c0
      go_wp2
      go_ret
      exact ⟨rfl, rfl⟩
end Go.Proofs.Ytpchllepboolhaa.D

namespace Go.Proofs.Ytpchllepboolhaa.D
open Go.RowKit Go.Proofs.Ytpchllepboolhaa.I
attribute [local go_sem] Oper.semAt_some
set_option linter.unusedVariables false
set_option linter.unusedSimpArgs false
set_option maxRecDepth 100000

/-- what an action leaves -/
structure DAct (w w' : World) (bd : Nat) (md : Bool) (v v' : Value) (A' : List It) : Prop where
  rd : RD w' bd md v' A'
  kp : Kp w w' (fpd bd v)
  sub : ∀ i ∈ fpd bd v', i ∈ fpd bd v ∨ w.heap.size ≤ i
theorem DAct.refl {w : World} {bd : Nat} {md : Bool} {v : Value} {A : List It} (h : RD w bd md v A) : DAct w w bd md v v A := ⟨h, Kp.refl _ _, fun _ h => .inl h⟩
/-- a cell's value, kept shut -/
def pv (a : Addr) (w : World) : Value := (w.cell? a).getD undef
theorem pv_of {a : Addr} {w : World} {v : Value} (h : w.cell? a = some v) : w.cell? a = some (pv a w) := by unfold pv; rw [h]; rfl
theorem pv_eq {a : Addr} {w : World} {v : Value} (h : w.cell? a = some v) : pv a w = v := by unfold pv; rw [h]; rfl
theorem pv_drew (a : Addr) (w : World) : pv a w.drew = pv a w := rfl
def cutAt (l : List It) (i : Nat) : List It := l.take i ++ l.drop (i + 1)
theorem take_snoc {l : List It} {k : Nat} {x : It} (h : l[k]? = some x) : l.take (k + 1) = l.take k ++ [x] := by rw [List.take_add_one, h]; rfl
def gone (l : List It) (i j : Nat) : List It := if j ≤ i then l.take j else l.take i ++ (l.take j).drop (i + 1)
theorem gone_skip {l : List It} {i : Nat} (h : i < l.length) : gone l i (i + 1) = gone l i i := by
  unfold gone
  rw [if_neg (by omega), if_pos (Nat.le_refl _), List.drop_eq_nil_of_le (by simp; omega), List.append_nil]
theorem gone_step {l : List It} {i j : Nat} {x : It} (hx : l[j]? = some x) (h : j ≠ i) : gone l i (j + 1) = gone l i j ++ [x] := by
  have hj := (List.getElem?_eq_some_iff.1 hx).1
  unfold gone
  by_cases hlt : j < i
  · rw [if_pos (by omega), if_pos (by omega), take_snoc hx]
  · rw [if_neg (by omega), if_neg (by omega), take_snoc hx, List.drop_append_of_le_length (by simp; omega), List.append_assoc]
theorem gone_all (l : List It) (i : Nat) (h : i < l.length) : gone l i l.length = cutAt l i := by
  unfold gone cutAt
  rw [if_neg (by omega), List.take_length]
theorem gone_le (l : List It) (i j : Nat) : (gone l i j).length ≤ j := by
  unfold gone
  split
  · simp; omega
  · simp; omega
theorem ownsRow_base {w : World} {B B' : Nat} {e : TypeId} {size : Nat} {v : Value} {n : Nat} {xs : List Value} (h : w.ownsRow B e size v n xs) (hb : B' ≤ B) : w.ownsRow B' e size v n xs := by
  refine ⟨h.1, ?_⟩
  rcases h.2 with h0 | ⟨g, cap, cur, hv, hg, rest⟩
  · exact .inl h0
  · exact .inr ⟨g, cap, cur, hv, by omega, rest⟩

set_option maxHeartbeats 4000000 in
theorem without_any (ao : Option Addr) (c i m : Nat) (l : List It) (w : World) (HM : Hid (m = l.length)) (hi : i < m) (hl : m ≤ 8796093022208) (HT : Hid (TRow w ao l)) :
    Calls Try.prog 60 #[.slice ao m c, .int .i64 i] w fun r w' => ∃ v, r = .returned v ∧ w'.ownsRow w.heap.size TIt 2 v (cutAt l i).length (icells (cutAt l i)) ∧ Below w.heap.size w w' := by
  obtain ⟨i0, hi0, hz0, hz1, hz2⟩ := info_parts infoIt
  have HC : Hid (gone l i m = cutAt l i) := by show _ = _; rw [HM.out]; exact gone_all l i (by have := HM.out; omega)
  rw [← HC.out]
  go_enter Try.func60, Try.ntmps60
  go_wp2
  go_loopw [5, 6] (fun t k wr => ∃ (j : Nat), j ≤ m ∧ k = .int .i64 j ∧ Hid (wr.ownsRow w.heap.size TIt 2 t (gone l i j).length (icells (gone l i j))) ∧ Hid (Below w.heap.size w wr)) (fun _ k _ => m - (intOf k).toNat)
  case atStart => exact ⟨0, Nat.zero_le _, rfl, World.ownsRow_nil _ _ _ _, Below.refl _ _⟩
  case round =>
    obtain ⟨j, hj, rfl, HR, HB⟩ := hrel
    by_cases hlt : j < m
    · obtain ⟨x, hx⟩ : ∃ x, l[j]? = some x := ⟨_, List.getElem?_eq_getElem (by have := HM.out; omega)⟩
      obtain ⟨b, rfl, c0, c1, _⟩ := HT.out.c j x hx
      have d0 : wr.cell? ⟨b, j * 2, none⟩ = some (.int .i64 x.1) := cell_later HB.out c0
      have d1 : wr.cell? ⟨b, j * 2 + 1, none⟩ = some (.int .i64 x.2) := cell_later HB.out c1
      have e1 : (j : Int) < (m : Int) := by omega
      have hsz := HB.out.size
      have hgl := gone_le l i j
      by_cases hji : j = i
      · have HN : Hid (gone l i (j + 1) = gone l i j) := by subst hji; exact gone_skip (by have := HM.out; omega)
        subst hji
        clear c0 c1 hx
        go_wp2
        go_roundw
        case rel => exact ⟨j + 1, by omega, by go_num, by rw [HN.out]; exact HR, HB⟩
        case measure => simp [intOf]; omega
      · have HN : Hid (gone l i (j + 1) = gone l i j ++ [x]) := gone_step hx hji
        have hne : ((j : Int) == (i : Int)) = false := by simpa using (by omega : ¬ (j : Int) = (i : Int))
        clear c0 c1 hx hji
        go_wp2_with (at_builtin; refine wpList_append_own_at _ rfl _ _ TIts rfl w.heap.size TIt i0 _ 2 16 Try.underlying26 hi0 hz0 hz1 hz2 rfl (by decide) _ _ _ rfl (HR.out.alloc _) ⟨wr.heap.size, 0, none⟩ 1 1 (icell x) rfl rfl (World.news_of_block (heap_alloc_new wr _)) (by simp [icell, Value.oneCell']) (by unfold maxLen; omega) (by omega) (by rw [World.size_alloc]; omega) ?_; intro v' w1 hown' hgrow hnl hat)
        go_roundw
        case rel =>
          refine ⟨j + 1, by omega, by go_num, ?_, ?_⟩
          · rw [HN.out, List.length_append, icells_append]
            show w1.ownsRow _ _ _ _ _ _
            simpa [icells] using hown'
          · exact (HB.out.alloc hsz _).grown hgrow (by rw [World.size_alloc]; omega) (fun q e => (HR.out.lt q e).1)
        case measure => simp [intOf]; omega
    · have e : j = m := by omega
      subst e
      go_wp2
      go_ret
      exact ⟨_, rfl, HR.out, HB.out⟩
theorem cut_at {A1 A2 : List It} {x : It} : cutAt (A1 ++ x :: A2) A1.length = A1 ++ A2 := by
  unfold cutAt
  rw [List.take_append_of_le_length (Nat.le_refl _), List.take_length, List.drop_append, List.drop_eq_nil_of_le (by omega)]
  simp
end Go.Proofs.Ytpchllepboolhaa.D
