import Derived.WalkKit
import Derived.Test.YtpchllepboolhaaProg
import Derived.RegionTactic
import Derived.Deep.QuietTactic
import Derived.BigQuiet
import Derived.OwnWalk
import Derived.WalkSpells
namespace Go.Proofs.Ytpchllepboolhaa.D
set_option linter.unusedVariables false

abbrev It := Int × Nat
/-- the keys, each with its pins -/
def pinsOf (k : Int) : List It → Option Nat
  | [] => none
  | x :: r => if x.1 = k then some x.2 else pinsOf k r
def rm (k : Int) : List It → List It
  | [] => []
  | x :: r => if x.1 = k then r else x :: rm k r
def setP (k : Int) (m : Nat) : List It → List It
  | [] => []
  | x :: r => if x.1 = k then (k, m) :: r else x :: setP k m r
theorem split_or (k : Int) : ∀ A : List It, (∀ x ∈ A, x.1 ≠ k) ∨ ∃ A1 p A2, A = A1 ++ (k, p) :: A2 ∧ ∀ x ∈ A1, x.1 ≠ k
  | [] => .inl (by simp)
  | x :: r => by
    by_cases h : x.1 = k
    · exact .inr ⟨[], x.2, r, by rw [← h]; rfl, by simp⟩
    · rcases split_or k r with h1 | ⟨A1, p, A2, rfl, h2⟩
      · exact .inl fun y hy => (List.mem_cons.1 hy).elim (fun e => e ▸ h) (h1 y)
      · exact .inr ⟨x :: A1, p, A2, rfl, fun y hy => (List.mem_cons.1 hy).elim (fun e => e ▸ h) (h2 y)⟩
theorem pinsOf_no {k : Int} : ∀ {A : List It}, (∀ x ∈ A, x.1 ≠ k) → pinsOf k A = none
  | [], _ => rfl
  | x :: r, h => by unfold pinsOf; rw [if_neg (h x (by simp))]; exact pinsOf_no fun y hy => h y (by simp [hy])
theorem pinsOf_at {k : Int} {p : Nat} {A2 : List It} : ∀ {A1 : List It}, (∀ x ∈ A1, x.1 ≠ k) → pinsOf k (A1 ++ (k, p) :: A2) = some p
  | [], _ => by simp [pinsOf]
  | x :: r, h => by simp only [List.cons_append]; unfold pinsOf; rw [if_neg (h x (by simp))]; exact pinsOf_at fun y hy => h y (by simp [hy])
theorem rm_at {k : Int} {p : Nat} {A2 : List It} : ∀ {A1 : List It}, (∀ x ∈ A1, x.1 ≠ k) → rm k (A1 ++ (k, p) :: A2) = A1 ++ A2
  | [], _ => by simp [rm]
  | x :: r, h => by simp only [List.cons_append]; unfold rm; rw [if_neg (h x (by simp)), rm_at fun y hy => h y (by simp [hy])]
theorem setP_at {k : Int} {p m : Nat} {A2 : List It} : ∀ {A1 : List It}, (∀ x ∈ A1, x.1 ≠ k) → setP k m (A1 ++ (k, p) :: A2) = A1 ++ (k, m) :: A2
  | [], _ => by simp [setP]
  | x :: r, h => by simp only [List.cons_append]; unfold setP; rw [if_neg (h x (by simp)), setP_at fun y hy => h y (by simp [hy])]
/-- one call -/
def stp (kind k : Int) (A : List It) : List It :=
  if kind = 1 then (match pinsOf k A with | some _ => A | none => A ++ [(k, 0)])
  else if kind = 2 then (match pinsOf k A with | some p => rm k A ++ [(k, p)] | none => A)
  else if kind = 3 then rm k A
  else if kind = 4 then (match pinsOf k A with | some p => if p < 2147483647 then setP k (p + 1) A else A | none => A)
  else if kind = 5 then (match pinsOf k A with | some p => if p = 0 then A else setP k (p - 1) A | none => A)
  else A
theorem rm_no {k : Int} : ∀ {A : List It}, (∀ x ∈ A, x.1 ≠ k) → rm k A = A
  | [], _ => rfl
  | x :: r, h => by unfold rm; rw [if_neg (h x (by simp)), rm_no fun y hy => h y (by simp [hy])]
theorem stp_length (kind k : Int) (A : List It) : (stp kind k A).length ≤ A.length + 1 := by
  unfold stp
  rcases split_or k A with h | ⟨A1, p, A2, rfl, h⟩
  · rw [pinsOf_no h, rm_no h]
    split
    · simp
    · split
      · simp only; omega
      · split
        · omega
        · split
          · simp only; omega
          · split
            · simp only; omega
            · omega
  · rw [pinsOf_at h, rm_at h]
    split
    · simp
    · split
      · simp only; simp
      · split
        · simp; omega
        · split
          · simp only; split
            · rw [setP_at h]; simp
            · simp
          · split
            · simp only; split
              · simp
              · rw [setP_at h]; simp
            · simp
def keysOf (A : List It) : List Int := A.map (·.1)
def freeOf (A : List It) : List Int := (A.filter (fun x => decide (x.2 = 0))).map (·.1)
def oldOf (A : List It) : Option Int := (freeOf A).head?
/-- cells of items -/
def icell (x : It) : List Value := [.int .i64 x.1, .int .i64 x.2]
def icells (l : List It) : List Value := l.flatMap icell
theorem icells_length (l : List It) : (icells l).length = l.length * 2 := by
  induction l with
  | nil => rfl
  | cons a t ih => simp [icells, icell] at ih ⊢; omega
theorem icells_append (a b : List It) : icells (a ++ b) = icells a ++ icells b := by simp [icells]
theorem icells_one (l : List It) : ∀ u ∈ icells l, u.oneCell' = true := by
  intro u hu
  obtain ⟨r, _, hr⟩ := List.mem_flatMap.1 hu
  simp only [icell, List.mem_cons, List.not_mem_nil, or_false] at hr
  rcases hr with rfl | rfl <;> rfl
theorem icells_get (l : List It) (k : Nat) (p : It) (h : l[k]? = some p) : (icells l)[k * 2]? = some (.int .i64 p.1) ∧ (icells l)[k * 2 + 1]? = some (.int .i64 p.2) := by
  induction l generalizing k with
  | nil => simp at h
  | cons a t ih =>
    cases k with
    | zero => simp at h; subst h; simp [icells, icell]
    | succ k =>
      simp at h
      have := ih k h
      have e : icells (a :: t) = icell a ++ icells t := by simp [icells]
      rw [e, List.getElem?_append_right (by simp [icell]; omega), List.getElem?_append_right (by simp [icell]; omega)]
      simp only [icell, List.length_cons, List.length_nil]
      rw [show (k + 1) * 2 - (0 + 1 + 1) = k * 2 by omega, show (k + 1) * 2 + 1 - (0 + 1 + 1) = k * 2 + 1 by omega]
      exact this
end Go.Proofs.Ytpchllepboolhaa.D

namespace Go.Proofs.Ytpchllepboolhaa
open Go.RowKit
attribute [local go_sem] Oper.semAt_some
set_option linter.unusedVariables false
set_option linter.unusedSimpArgs false
set_option maxRecDepth 100000

theorem ret_bool {a b : Bool} (h : a = b) : Ending.returned (.bool a) = .returned (.bool b) := by rw [h]
/-- numbers in a slice -/
structure IRow (w : World) (ao : Option Addr) (l : List Int) : Prop where
  c : ∀ k x, l[k]? = some x → ∃ b off, ao = some ⟨b, off, none⟩ ∧ w.cell? ⟨b, off + k, none⟩ = some (.int .i64 x)
theorem IRow.later {w w' : World} {ao : Option Addr} {l : List Int} (h : IRow w ao l) (hb : Below w.heap.size w w') : IRow w' ao l :=
  ⟨fun k x hx => by obtain ⟨b, off, he, hc⟩ := h.c k x hx; exact ⟨b, off, he, cell_later hb hc⟩⟩
theorem IRow.nil (w : World) (ao : Option Addr) : IRow w ao [] := ⟨fun k x hx => by simp at hx⟩
theorem irow_of {W : World} {B : Nat} {v : Value} {ks : List Int} (h : W.ownsRow B 3 1 v ks.length (ks.map (Value.int .i64))) : ∃ ao cap, v = .slice ao ks.length cap ∧ IRow W ao ks := by
  rcases h.2 with ⟨rfl, h0⟩ | ⟨gv, cap, cur, rfl, hb, hg, hc, _, hsz, ht⟩
  · exact ⟨none, 0, by rw [h0], by rw [List.length_eq_zero_iff.1 h0]; exact IRow.nil _ _⟩
  · refine ⟨_, cap, rfl, ⟨fun k x hx => ⟨gv, 0, rfl, ?_⟩⟩⟩
    have hk := (List.getElem?_eq_some_iff.1 hx).1
    have h1 : (ks.map (Value.int .i64))[k]? = some (.int .i64 x) := by rw [List.getElem?_map, hx]; rfl
    rw [← ht, List.getElem?_take, if_pos (by omega)] at h1
    unfold World.cell?; simp only [hg]; simpa using h1
theorem take_snoc {l : List Int} {k : Nat} {x : Int} (h : l[k]? = some x) : l.take (k + 1) = l.take k ++ [x] := by rw [List.take_add_one, h]; rfl

set_option maxHeartbeats 1000000 in
theorem same_eq (ao bo : Option Addr) (c c' n : Nat) (l m : List Int) (w : World) (HL : Hid (l.length = n)) (HM : Hid (m.length = n)) (hn : n ≤ 17592186044416) (h : Hid (IRow w ao l)) (h' : Hid (IRow w bo m)) :
    Calls Try.prog 35 #[.slice ao n c, .slice bo n c'] w fun e w' => e = .returned (.bool (decide (l = m))) ∧ ∃ q, w' = w.drewN q := by
  go_enter Try.func35, Try.ntmps35
  go_wp2
  go_loopw [5] (fun i wr => ∃ k q : Nat, k ≤ n ∧ i = .int .i64 k ∧ wr = w.drewN q ∧ Hid (l.take k = m.take k)) (fun i _ => n - (intOf i).toNat)
  case atStart => exact ⟨0, 0, Nat.zero_le _, rfl, rfl, rfl⟩
  case round =>
    obtain ⟨k, q, hk, rfl, rfl, HT⟩ := hrel
    by_cases hlt : k < n
    · obtain ⟨x, hx⟩ : ∃ x, l[k]? = some x := ⟨_, List.getElem?_eq_getElem (by have := HL.out; omega)⟩
      obtain ⟨y, hy⟩ : ∃ y, m[k]? = some y := ⟨_, List.getElem?_eq_getElem (by have := HM.out; omega)⟩
      obtain ⟨b, off, rfl, hc⟩ := h.out.c k _ hx
      obtain ⟨b', off', rfl, hd⟩ := h'.out.c k _ hy
      have HX : Hid (l[k]? = some x) := hx
      have HY : Hid (m[k]? = some y) := hy
      clear hx hy
      by_cases hxy : x = y
      · subst hxy
        have HS : Hid (l.take (k + 1) = m.take (k + 1)) := by show _ = _; rw [take_snoc HX.out, take_snoc HY.out, HT.out]
        go_wp2
        go_quiet (fail)
        go_wp2
        go_roundw
        case rel => exact ⟨k + 1, _, by omega, by go_num, rfl, HS⟩
        case measure => simp [intOf]; omega
      · have HS : Hid (¬ l = m) := fun e => hxy (by have h1 := HX.out; rw [e, HY.out] at h1; simpa using h1.symm)
        have hne : (x != y) = true := by rw [bne_iff_ne]; exact hxy
        clear hxy
        go_wp2
        go_quiet (fail)
        go_wp2
        go_ret
        exact ⟨ret_bool (by rw [decide_eq_false HS.out]), q + nq, by rw [World.drewN_drewN]⟩
    · have HE : Hid (l = m) := by
        have := HT.out
        rwa [List.take_of_length_le (by rw [HL.out]; omega), List.take_of_length_le (by rw [HM.out]; omega)] at this
      go_wp2
      go_ret
      exact ⟨ret_bool (by rw [decide_eq_true HE.out]), _, rfl⟩
theorem same_any (ao bo : Option Addr) (c c' : Nat) (l m : List Int) (w : World) (hl : l.length ≤ 17592186044416) (hm : m.length ≤ 17592186044416) (h : IRow w ao l) (h' : IRow w bo m) :
    Calls Try.prog 35 #[.slice ao l.length c, .slice bo m.length c'] w fun e w' => e = .returned (.bool (decide (l = m))) ∧ ∃ q, w' = w.drewN q := by
  by_cases hlen : l.length = m.length
  · have := same_eq ao bo c c' m.length l m w hlen rfl hm h h'
    rw [hlen]; exact this
  · have HE : Hid (decide (l = m) = false) := decide_eq_false fun e => hlen (by rw [e])
    have hne : ((l.length : Int) != (m.length : Int)) = true := by rw [bne_iff_ne]; omega
    generalize l.length = a at *
    generalize m.length = b at *
    clear h h' hlen
    go_enter Try.func35, Try.ntmps35
    go_wp2
    go_ret
    exact ⟨ret_bool (by rw [HE.out]), 0, rfl⟩
end Go.Proofs.Ytpchllepboolhaa
