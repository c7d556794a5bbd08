import Derived.Test.YtpchllepboolhaazDA
import Derived.Deep.AppendLies
import Derived.Deep.RegionHeld3
import Derived.Deep.DrawnRows
import Derived.Maps.AppendAt
namespace Go.Proofs.Ytpchllepboolhaa.D
open Go.RowKit Go.Proofs.Ytpchllepboolhaa.I
attribute [local go_sem] Oper.semAt_some
set_option linter.unusedVariables false
set_option linter.unusedSimpArgs false
set_option maxRecDepth 100000

/-- what an action leaves -/
structure DAct (w w' : World) (bd : Nat) (md : Bool) (v v' : Value) (A' : List It) : Prop where
  rd : RD w' bd md v' A'
  kp : Kp w w' (fpd bd v)
  sub : ∀ i ∈ fpd bd v', i ∈ fpd bd v ∨ w.heap.size ≤ i
theorem DAct.refl {w : World} {bd : Nat} {md : Bool} {v : Value} {A : List It} (h : RD w bd md v A) : DAct w w bd md v v A := ⟨h, Kp.refl _ _, fun _ h => .inl h⟩
/-- a cell's value, kept shut -/
def pv (a : Addr) (w : World) : Value := (w.cell? a).getD undef
theorem pv_of {a : Addr} {w : World} {v : Value} (h : w.cell? a = some v) : w.cell? a = some (pv a w) := by unfold pv; rw [h]; rfl
theorem pv_eq {a : Addr} {w : World} {v : Value} (h : w.cell? a = some v) : pv a w = v := by unfold pv; rw [h]; rfl
theorem pv_drew (a : Addr) (w : World) : pv a w.drew = pv a w := rfl
def cutAt (l : List It) (i : Nat) : List It := l.take i ++ l.drop (i + 1)
theorem take_snoc {l : List It} {k : Nat} {x : It} (h : l[k]? = some x) : l.take (k + 1) = l.take k ++ [x] := by rw [List.take_add_one, h]; rfl
def gone (l : List It) (i j : Nat) : List It := if j ≤ i then l.take j else l.take i ++ (l.take j).drop (i + 1)
theorem gone_skip {l : List It} {i : Nat} (h : i < l.length) : gone l i (i + 1) = gone l i i := by
  unfold gone
  rw [if_neg (by omega), if_pos (Nat.le_refl _), List.drop_eq_nil_of_le (by simp; omega), List.append_nil]
theorem gone_step {l : List It} {i j : Nat} {x : It} (hx : l[j]? = some x) (h : j ≠ i) : gone l i (j + 1) = gone l i j ++ [x] := by
  have hj := (List.getElem?_eq_some_iff.1 hx).1
  unfold gone
  by_cases hlt : j < i
  · rw [if_pos (by omega), if_pos (by omega), take_snoc hx]
  · rw [if_neg (by omega), if_neg (by omega), take_snoc hx, List.drop_append_of_le_length (by simp; omega), List.append_assoc]
theorem gone_all (l : List It) (i : Nat) (h : i < l.length) : gone l i l.length = cutAt l i := by
  unfold gone cutAt
  rw [if_neg (by omega), List.take_length]
theorem gone_le (l : List It) (i j : Nat) : (gone l i j).length ≤ j := by
  unfold gone
  split
  · simp; omega
  · simp; omega
theorem ownsRow_base {w : World} {B B' : Nat} {e : TypeId} {size : Nat} {v : Value} {n : Nat} {xs : List Value} (h : w.ownsRow B e size v n xs) (hb : B' ≤ B) : w.ownsRow B' e size v n xs := by
  refine ⟨h.1, ?_⟩
  rcases h.2 with h0 | ⟨g, cap, cur, hv, hg, rest⟩
  · exact .inl h0
  · exact .inr ⟨g, cap, cur, hv, by omega, rest⟩

set_option maxHeartbeats 4000000 in
theorem without_any (ao : Option Addr) (c i m : Nat) (l : List It) (w : World) (HM : Hid (m = l.length)) (hi : i < m) (hl : m ≤ 8796093022208) (HT : Hid (TRow w ao l)) :
    Calls Try.prog 60 #[.slice ao m c, .int .i64 i] w fun r w' => ∃ v, r = .returned v ∧ w'.ownsRow w.heap.size TIt 2 v (cutAt l i).length (icells (cutAt l i)) ∧ Below w.heap.size w w' := by
  obtain ⟨i0, hi0, hz0, hz1, hz2⟩ := info_parts infoIt
  have HC : Hid (gone l i m = cutAt l i) := by show _ = _; rw [HM.out]; exact gone_all l i (by have := HM.out; omega)
  rw [← HC.out]
  go_enter Try.func60, Try.ntmps60
  go_wp2
  go_loopw [5, 6] (fun t k wr => ∃ (j : Nat), j ≤ m ∧ k = .int .i64 j ∧ Hid (wr.ownsRow w.heap.size TIt 2 t (gone l i j).length (icells (gone l i j))) ∧ Hid (Below w.heap.size w wr)) (fun _ k _ => m - (intOf k).toNat)
  case atStart => exact ⟨0, Nat.zero_le _, rfl, World.ownsRow_nil _ _ _ _, Below.refl _ _⟩
  case round =>
    obtain ⟨j, hj, rfl, HR, HB⟩ := hrel
    by_cases hlt : j < m
    · obtain ⟨x, hx⟩ : ∃ x, l[j]? = some x := ⟨_, List.getElem?_eq_getElem (by have := HM.out; omega)⟩
      obtain ⟨b, rfl, c0, c1, _⟩ := HT.out.c j x hx
      have d0 : wr.cell? ⟨b, j * 2, none⟩ = some (.int .i64 x.1) := cell_later HB.out c0
      have d1 : wr.cell? ⟨b, j * 2 + 1, none⟩ = some (.int .i64 x.2) := cell_later HB.out c1
      have e1 : (j : Int) < (m : Int) := by omega
      have hsz := HB.out.size
      have hgl := gone_le l i j
      by_cases hji : j = i
      · have HN : Hid (gone l i (j + 1) = gone l i j) := by subst hji; exact gone_skip (by have := HM.out; omega)
        subst hji
        clear c0 c1 hx
        go_wp2
        go_roundw
        case rel => exact ⟨j + 1, by omega, by go_num, by rw [HN.out]; exact HR, HB⟩
        case measure => simp [intOf]; omega
      · have HN : Hid (gone l i (j + 1) = gone l i j ++ [x]) := gone_step hx hji
        have hne : ((j : Int) == (i : Int)) = false := by simpa using (by omega : ¬ (j : Int) = (i : Int))
        clear c0 c1 hx hji
        go_wp2_with (at_builtin; refine wpList_append_own_at _ rfl _ _ TIts rfl w.heap.size TIt i0 _ 2 16 Try.underlying26 hi0 hz0 hz1 hz2 rfl (by decide) _ _ _ rfl (HR.out.alloc _) ⟨wr.heap.size, 0, none⟩ 1 1 (icell x) rfl rfl (World.news_of_block (heap_alloc_new wr _)) (by simp [icell, Value.oneCell']) (by unfold maxLen; omega) (by omega) (by rw [World.size_alloc]; omega) ?_; intro v' w1 hown' hgrow hnl hat)
        go_roundw
        case rel =>
          refine ⟨j + 1, by omega, by go_num, ?_, ?_⟩
          · rw [HN.out, List.length_append, icells_append]
            show w1.ownsRow _ _ _ _ _ _
            simpa [icells] using hown'
          · exact (HB.out.alloc hsz _).grown hgrow (by rw [World.size_alloc]; omega) (fun q e => (HR.out.lt q e).1)
        case measure => simp [intOf]; omega
    · have e : j = m := by omega
      subst e
      go_wp2
      go_ret
      exact ⟨_, rfl, HR.out, HB.out⟩
theorem cut_at {A1 A2 : List It} {x : It} : cutAt (A1 ++ x :: A2) A1.length = A1 ++ A2 := by
  unfold cutAt
  rw [List.take_append_of_le_length (Nat.le_refl _), List.take_length, List.drop_append, List.drop_eq_nil_of_le (by omega)]
  simp
end Go.Proofs.Ytpchllepboolhaa.D
