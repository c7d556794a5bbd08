import Derived.Test.YtpchllepboolhaaProg
import Derived.WalkKit
import Derived.RegionTactic
import Derived.Deep.QuietTactic
import Derived.BigQuiet
import Derived.OwnWalk
import Derived.WalkSpells
namespace Go.Proofs.Ytpchllepboolhaa
open Go.RowKit
attribute [local go_sem] Oper.semAt_some
set_option linter.unusedVariables false
set_option linter.unusedSimpArgs false
set_option maxRecDepth 100000

theorem ret_bool {a b : Bool} (h : a = b) : Ending.returned (.bool a) = .returned (.bool b) := by rw [h]
/-- numbers in a slice -/
structure IRow (w : World) (ao : Option Addr) (l : List Int) : Prop where
  c : ∀ k x, l[k]? = some x → ∃ b off, ao = some ⟨b, off, none⟩ ∧ w.cell? ⟨b, off + k, none⟩ = some (.int .i64 x)
theorem IRow.later {w w' : World} {ao : Option Addr} {l : List Int} (h : IRow w ao l) (hb : Below w.heap.size w w') : IRow w' ao l :=
  ⟨fun k x hx => by obtain ⟨b, off, he, hc⟩ := h.c k x hx; exact ⟨b, off, he, cell_later hb hc⟩⟩
theorem IRow.nil (w : World) (ao : Option Addr) : IRow w ao [] := ⟨fun k x hx => by simp at hx⟩
theorem irow_of {W : World} {B : Nat} {v : Value} {ks : List Int} (h : W.ownsRow B 3 1 v ks.length (ks.map (Value.int .i64))) : ∃ ao cap, v = .slice ao ks.length cap ∧ IRow W ao ks := by
  rcases h.2 with ⟨rfl, h0⟩ | ⟨gv, cap, cur, rfl, hb, hg, hc, _, hsz, ht⟩
  · exact ⟨none, 0, by rw [h0], by rw [List.length_eq_zero_iff.1 h0]; exact IRow.nil _ _⟩
  · refine ⟨_, cap, rfl, ⟨fun k x hx => ⟨gv, 0, rfl, ?_⟩⟩⟩
    have hk := (List.getElem?_eq_some_iff.1 hx).1
    have h1 : (ks.map (Value.int .i64))[k]? = some (.int .i64 x) := by rw [List.getElem?_map, hx]; rfl
    rw [← ht, List.getElem?_take, if_pos (by omega)] at h1
    unfold World.cell?; simp only [hg]; simpa using h1
theorem take_snoc {l : List Int} {k : Nat} {x : Int} (h : l[k]? = some x) : l.take (k + 1) = l.take k ++ [x] := by rw [List.take_add_one, h]; rfl

set_option maxHeartbeats 1000000 in
theorem same_eq (ao bo : Option Addr) (c c' n : Nat) (l m : List Int) (w : World) (HL : Hid (l.length = n)) (HM : Hid (m.length = n)) (hn : n ≤ 17592186044416) (h : Hid (IRow w ao l)) (h' : Hid (IRow w bo m)) :
    Calls Try.prog 35 #[.slice ao n c, .slice bo n c'] w fun e w' => e = .returned (.bool (decide (l = m))) ∧ ∃ q, w' = w.drewN q := by
  go_enter Try.func35, Try.ntmps35
  go_wp2
  go_loopw [5] (fun i wr => ∃ k q : Nat, k ≤ n ∧ i = .int .i64 k ∧ wr = w.drewN q ∧ Hid (l.take k = m.take k)) (fun i _ => n - (intOf i).toNat)
  case atStart => exact ⟨0, 0, Nat.zero_le _, rfl, rfl, rfl⟩
  case round =>
    obtain ⟨k, q, hk, rfl, rfl, HT⟩ := hrel
    by_cases hlt : k < n
    · obtain ⟨x, hx⟩ : ∃ x, l[k]? = some x := ⟨_, List.getElem?_eq_getElem (by have := HL.out; omega)⟩
      obtain ⟨y, hy⟩ : ∃ y, m[k]? = some y := ⟨_, List.getElem?_eq_getElem (by have := HM.out; omega)⟩
      obtain ⟨b, off, rfl, hc⟩ := h.out.c k _ hx
      obtain ⟨b', off', rfl, hd⟩ := h'.out.c k _ hy
      have HX : Hid (l[k]? = some x) := hx
      have HY : Hid (m[k]? = some y) := hy
      clear hx hy
      by_cases hxy : x = y
      · subst hxy
        have HS : Hid (l.take (k + 1) = m.take (k + 1)) := by show _ = _; rw [take_snoc HX.out, take_snoc HY.out, HT.out]
        go_wp2
        go_quiet (fail)
        go_wp2
        go_roundw
        case rel => exact ⟨k + 1, _, by omega, by go_num, rfl, HS⟩
        case measure => simp [intOf]; omega
      · have HS : Hid (¬ l = m) := fun e => hxy (by have h1 := HX.out; rw [e, HY.out] at h1; simpa using h1.symm)
        have hne : (x != y) = true := by rw [bne_iff_ne]; exact hxy
        clear hxy
        go_wp2
        go_quiet (fail)
        go_wp2
        go_ret
        exact ⟨ret_bool (by rw [decide_eq_false HS.out]), q + nq, by rw [World.drewN_drewN]⟩
    · have HE : Hid (l = m) := by
        have := HT.out
        rwa [List.take_of_length_le (by rw [HL.out]; omega), List.take_of_length_le (by rw [HM.out]; omega)] at this
      go_wp2
      go_ret
      exact ⟨ret_bool (by rw [decide_eq_true HE.out]), _, rfl⟩
theorem same_any (ao bo : Option Addr) (c c' : Nat) (l m : List Int) (w : World) (hl : l.length ≤ 17592186044416) (hm : m.length ≤ 17592186044416) (h : IRow w ao l) (h' : IRow w bo m) :
    Calls Try.prog 35 #[.slice ao l.length c, .slice bo m.length c'] w fun e w' => e = .returned (.bool (decide (l = m))) ∧ ∃ q, w' = w.drewN q := by
  by_cases hlen : l.length = m.length
  · have := same_eq ao bo c c' m.length l m w hlen rfl hm h h'
    rw [hlen]; exact this
  · have HE : Hid (decide (l = m) = false) := decide_eq_false fun e => hlen (by rw [e])
    have hne : ((l.length : Int) != (m.length : Int)) = true := by rw [bne_iff_ne]; omega
    generalize l.length = a at *
    generalize m.length = b at *
    clear h h' hlen
    go_enter Try.func35, Try.ntmps35
    go_wp2
    go_ret
    exact ⟨ret_bool (by rw [HE.out]), 0, rfl⟩
end Go.Proofs.Ytpchllepboolhaa
