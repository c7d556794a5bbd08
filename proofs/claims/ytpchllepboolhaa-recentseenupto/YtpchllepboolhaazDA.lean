import Derived.Test.YtpchllepboolhaaDM
import Derived.Test.YtpchllepboolhaaV14
import Derived.Test.YtpchllepboolhaaRAI
namespace Go.Proofs.Ytpchllepboolhaa.D
open Go.RowKit Go.Proofs.Ytpchllepboolhaa.I
attribute [local go_sem] Oper.semAt_some
set_option linter.unusedVariables false
set_option linter.unusedSimpArgs false
set_option maxRecDepth 100000

abbrev TDo : TypeId := 28
abbrev TIt : TypeId := 86
abbrev TIts : TypeId := 26
theorem infoIt : (Try.prog.info? TIt).map (fun i => (i.zero, i.size, i.bytes)) = some (some (.agg #[.int .i64 0, .int .i64 0]), 2, 16) := by kernel_rfl
/-- the document's order in memory -/
structure RD (w : World) (bd : Nat) (md : Bool) (v : Value) (A : List It) : Prop where
  blk : w.heap[bd]? = some (.cells #[.bool md, v] TDo (0, 0))
  row : w.ownsRow 0 TIt 2 v A.length (icells A)
  pm : ∀ x ∈ A, x.2 ≤ 2147483647
  len : A.length ≤ 8796093022208
def fpd (bd : Nat) (v : Value) : List Nat := bd :: v.ownBlock.toList
theorem RD.lt {w : World} {bd : Nat} {md : Bool} {v : Value} {A : List It} (h : RD w bd md v A) : ∀ i ∈ fpd bd v, i < w.heap.size := by
  intro i hi
  simp only [fpd, List.mem_cons, Option.mem_toList] at hi
  rcases hi with rfl | hi
  · exact (Array.getElem?_eq_some_iff.1 h.blk).1
  · exact (h.row.lt i hi).2
theorem RD.same {w w' : World} {bd : Nat} {md : Bool} {v : Value} {A : List It} (h : RD w bd md v A) (hs : ∀ i ∈ fpd bd v, w'.heap[i]? = w.heap[i]?) : RD w' bd md v A := by
  refine ⟨(hs bd (by simp [fpd])).trans h.blk, ⟨h.row.1, ?_⟩, h.pm, h.len⟩
  rcases h.row.2 with h0 | ⟨g, cap, cur, hv, hb, hg, rest⟩
  · exact .inl h0
  · exact .inr ⟨g, cap, cur, hv, hb, (hs g (by simp [fpd, hv, Value.ownBlock])).trans hg, rest⟩
theorem RD.later {w w' : World} {bd : Nat} {md : Bool} {v : Value} {A : List It} (h : RD w bd md v A) (hb : Below w.heap.size w w') : RD w' bd md v A := h.same fun i hi => hb.block i (h.lt i hi)
theorem RD.kept {w w' : World} {bd : Nat} {md : Bool} {v : Value} {A : List It} {F : List Nat} (h : RD w bd md v A) (hk : Kp w w' F) (hd : ∀ i ∈ fpd bd v, i ∉ F) : RD w' bd md v A := h.same fun i hi => hk.block i (h.lt i hi) (hd i hi)
theorem RD.c0 {w : World} {bd : Nat} {md : Bool} {v : Value} {A : List It} (h : RD w bd md v A) : w.cell? ⟨bd, 0, none⟩ = some (.bool md) := (cell_of h.blk).trans rfl
theorem RD.c1 {w : World} {bd : Nat} {md : Bool} {v : Value} {A : List It} (h : RD w bd md v A) : w.cell? ⟨bd, 1, none⟩ = some v := (cell_of h.blk).trans rfl
theorem RD.f1 {w : World} {bd : Nat} {md : Bool} {v : Value} {A : List It} (h : RD w bd md v A) : w.frozen? ⟨bd, 1, none⟩ = false := frozen_of h.blk
/-- items in a slice -/
structure TRow (w : World) (ao : Option Addr) (l : List It) : Prop where
  c : ∀ k x, l[k]? = some x → ∃ b, ao = some ⟨b, 0, none⟩ ∧ w.cell? ⟨b, k * 2, none⟩ = some (.int .i64 x.1) ∧ w.cell? ⟨b, k * 2 + 1, none⟩ = some (.int .i64 x.2) ∧ w.frozen? ⟨b, k * 2 + 1, none⟩ = false
theorem trow_of {W : World} {B : Nat} {v : Value} {ks : List It} (h : W.ownsRow B TIt 2 v ks.length (icells ks)) : ∃ ao cap, v = .slice ao ks.length cap ∧ TRow W ao ks := by
  rcases h.2 with ⟨rfl, h0⟩ | ⟨gv, cap, cur, rfl, hb, hg, hc, _, hsz, ht⟩
  · exact ⟨none, 0, by rw [h0], by rw [List.length_eq_zero_iff.1 h0]; exact ⟨fun k x hx => by simp at hx⟩⟩
  · refine ⟨_, cap, rfl, ⟨fun k x hx => ⟨gv, rfl, ?_, ?_, frozen_of hg⟩⟩⟩
    all_goals
      have hk := (List.getElem?_eq_some_iff.1 hx).1
      have h1 := icells_get ks k x hx
      rw [← ht, List.getElem?_take, if_pos (by omega), List.getElem?_take, if_pos (by omega)] at h1
      rw [cell_of hg]
    · simpa using h1.1
    · simpa using h1.2

theorem at_no {w : World} {bd : Nat} {md : Bool} {v : Value} {A : List It} (h : RD w bd md v A) (k : Int) (hn : Hid (∀ x ∈ A, x.1 ≠ k)) :
    Calls Try.prog 58 #[.pointer (some ⟨bd, 0, none⟩), .int .i64 k] w fun r w' => r = .returned (.int .i64 (-1)) ∧ w' = w := by
  have hc1 := h.c1
  obtain ⟨ao, cap, rfl, ht⟩ := trow_of h.row
  have hl := h.len
  have HT : Hid (TRow w ao A) := ht
  obtain ⟨m, hm⟩ : ∃ m, m = A.length := ⟨_, rfl⟩
  rw [← hm] at hc1 hl
  have HM : Hid (m = A.length) := hm
  clear h ht hm
  go_enter Try.func58, Try.ntmps58
  go_wp2
  go_loop [5] (fun i => ∃ j : Nat, j ≤ m ∧ i = .int .i64 j) (fun i => m - (intOf i).toNat)
  case atStart => exact ⟨0, Nat.zero_le _, rfl⟩
  case round =>
    obtain ⟨j, hj, rfl⟩ := hrel
    by_cases hlt : j < m
    · obtain ⟨x, hx⟩ : ∃ x, A[j]? = some x := ⟨_, List.getElem?_eq_getElem (by have := HM.out; omega)⟩
      obtain ⟨b, rfl, c0, c1, _⟩ := HT.out.c j x hx
      have hne : (x.1 == k) = false := by simpa using hn.out x (List.mem_of_getElem? hx)
      have d1 : (j : Int) < (m : Int) := by omega
      clear hx
      go_wp2
      go_round
      case rel => exact ⟨j + 1, by omega, by go_num⟩
      case measure => simp [intOf]; omega
    · go_wp2
      go_ret
      exact ⟨rfl, rfl⟩
theorem at_in {w : World} {bd : Nat} {md : Bool} {v : Value} {A1 A2 : List It} {k : Int} {p : Nat} (h : RD w bd md v (A1 ++ (k, p) :: A2)) (hn : Hid (∀ x ∈ A1, x.1 ≠ k)) :
    Calls Try.prog 58 #[.pointer (some ⟨bd, 0, none⟩), .int .i64 k] w fun r w' => r = .returned (.int .i64 A1.length) ∧ w' = w := by
  have hc1 := h.c1
  obtain ⟨ao, cap, rfl, ht⟩ := trow_of h.row
  have hl := h.len
  have HT : Hid (TRow w ao (A1 ++ (k, p) :: A2)) := ht
  obtain ⟨m, hm⟩ : ∃ m, m = (A1 ++ (k, p) :: A2).length := ⟨_, rfl⟩
  rw [← hm] at hc1 hl
  have HM : Hid (m = (A1 ++ (k, p) :: A2).length) := hm
  obtain ⟨q, hq⟩ : ∃ q, q = A1.length := ⟨_, rfl⟩
  have hqm : q < m := by rw [hq, hm]; simp
  have HQ : Hid (q = A1.length) := hq
  rw [← hq]
  clear h ht hm hq
  go_enter Try.func58, Try.ntmps58
  go_wp2
  go_loop [5] (fun i => ∃ j : Nat, j ≤ q ∧ i = .int .i64 j) (fun i => q - (intOf i).toNat)
  case atStart => exact ⟨0, Nat.zero_le _, rfl⟩
  case round =>
    obtain ⟨j, hj, rfl⟩ := hrel
    obtain ⟨x, hx⟩ : ∃ x, (A1 ++ (k, p) :: A2)[j]? = some x := ⟨_, List.getElem?_eq_getElem (by have := HM.out; omega)⟩
    obtain ⟨b, rfl, c0, c1, _⟩ := HT.out.c j x hx
    have d1 : (j : Int) < (m : Int) := by omega
    by_cases hlt : j < q
    · have hne : (x.1 == k) = false := by
        have := HQ.out
        rw [List.getElem?_append_left (by omega)] at hx
        simpa using hn.out x (List.mem_of_getElem? hx)
      clear hx
      go_wp2
      go_round
      case rel => exact ⟨j + 1, by omega, by go_num⟩
      case measure => simp [intOf]; omega
    · have e : j = q := by omega
      subst e
      have hxk : x = (k, p) := by
        rw [HQ.out, List.getElem?_append_right (Nat.le_refl _)] at hx
        simpa using hx.symm
      subst hxk
      clear hx
      simp only at c0
      go_wp2
      go_ret
      exact ⟨rfl, rfl⟩
end Go.Proofs.Ytpchllepboolhaa.D
