import Derived.Test.YtpchllepboolhaazDO
import Derived.Test.YtpchllepboolhaaProg
import Derived.WalkKit
import Derived.RegionTactic
import Derived.Deep.QuietTactic
import Derived.BigQuiet
import Derived.OwnWalk
import Derived.WalkSpells
namespace Go.Proofs.Ytpchllepboolhaa.D
open Go.Proofs.Ytpchllepboolhaa.I
set_option linter.unusedVariables false

def Uniq (A : List It) : Prop := (A.map (·.1)).Nodup
theorem uniq_kp {W : World} {bo bm g : Nat} {L : List Ent} (h : RO W bo bm g L) : Uniq (L.map I.kp) := by
  unfold Uniq
  rw [List.map_map]
  exact h.kd
theorem uniq_mid {A1 A2 : List It} {k : Int} {p : Nat} (h : Uniq (A1 ++ (k, p) :: A2)) : ∀ x ∈ A1 ++ A2, x.1 ≠ k := by
  unfold Uniq at h
  simp only [List.map_append, List.map_cons, List.nodup_append, List.nodup_cons, List.mem_map, List.mem_cons] at h
  obtain ⟨_, ⟨h2, _⟩, h3⟩ := h
  intro x hx e
  rcases List.mem_append.1 hx with hx | hx
  · exact h3 _ ⟨x, hx, rfl⟩ _ (.inl rfl) e
  · exact h2 ⟨x, hx, e⟩
theorem rm_none {A : List It} (h : Uniq A) (k : Int) : ∀ x ∈ rm k A, x.1 ≠ k := by
  rcases split_or k A with hn | ⟨A1, p, A2, rfl, hn⟩
  · rw [rm_no hn]; exact hn
  · rw [rm_at hn]; exact uniq_mid h
theorem uniq_rm {A : List It} (h : Uniq A) (k : Int) : Uniq (rm k A) := by
  rcases split_or k A with hn | ⟨A1, p, A2, rfl, hn⟩
  · rw [rm_no hn]; exact h
  · rw [rm_at hn]
    unfold Uniq at h ⊢
    simp only [List.map_append, List.map_cons, List.nodup_append, List.nodup_cons, List.mem_cons] at h ⊢
    exact ⟨h.1, h.2.1.2, fun a ha b hb => h.2.2 a ha b (.inr hb)⟩
theorem row_last {A : List It} (h : Uniq A) (k : Int) : (pinsOf k (stp 2 k A)).getD 0 = (pinsOf k A).getD 0 ∧ ans 1 k (stp 2 k A) = !(pinsOf k A).isSome ∧ stp 1 k (stp 2 k A) = rm k A ++ [(k, (pinsOf k A).getD 0)] := by
  rcases split_or k A with hn | ⟨A1, p, A2, rfl, hn⟩
  · simp [stp, ans, pinsOf_no hn, rm_no hn]
  · have hm := uniq_mid h
    have e : pinsOf k (A1 ++ A2 ++ [(k, p)]) = some p := pinsOf_at (A1 := A1 ++ A2) (A2 := []) hm
    simp only [stp, ans, show ¬ (2 : Int) = 1 by decide, if_false, if_true, pinsOf_at hn, rm_at hn, e]
    simp
theorem tail_pin {R : List It} {k : Int} {p : Nat} (h : ∀ x ∈ R, x.1 ≠ k) (hp : p < 2147483647) : ans 4 k (R ++ [(k, p)]) = true ∧ stp 4 k (R ++ [(k, p)]) = R ++ [(k, p + 1)] := by
  have e : pinsOf k (R ++ [(k, p)]) = some p := pinsOf_at (A1 := R) (A2 := []) h
  have e2 : setP k (p + 1) (R ++ [(k, p)]) = R ++ [(k, p + 1)] := setP_at (A1 := R) (A2 := []) h
  simp only [ans, stp, show ¬ (4 : Int) = 1 by decide, show ¬ (4 : Int) = 2 by decide, show ¬ (4 : Int) = 3 by decide, if_false, if_true, e, e2, hp]
  simp
theorem tail_pins {R : List It} {k : Int} {p : Nat} (h : ∀ x ∈ R, x.1 ≠ k) : pinsOf k (R ++ [(k, p)]) = some p := pinsOf_at (A1 := R) (A2 := []) h
theorem tail_drop {R : List It} {k : Int} {p : Nat} (h : ∀ x ∈ R, x.1 ≠ k) : ans 3 k (R ++ [(k, p)]) = true ∧ stp 3 k (R ++ [(k, p)]) = R := by
  have e2 : rm k (R ++ [(k, p)]) = R := by rw [rm_at (A1 := R) (A2 := []) h]; simp
  simp [ans, stp, tail_pins h, e2]
theorem gone_all5 {R : List It} {k : Int} (h : ∀ x ∈ R, x.1 ≠ k) : ans 3 k R = false ∧ stp 3 k R = R ∧ pinsOf k R = none ∧ ans 5 k R = false ∧ stp 5 k R = R ∧ ans 1 k R = true ∧ stp 1 k R = R ++ [(k, 0)] := by
  simp [ans, stp, pinsOf_no h, rm_no h]
theorem pinsOf_app {R : List It} {k : Int} (h : Uniq R) {x : It} (hx : x ∈ R) (B : List It) : pinsOf x.1 (R ++ B) = some x.2 := by
  obtain ⟨R1, R2, rfl⟩ := List.append_of_mem hx
  obtain ⟨a, p⟩ := x
  have hm := uniq_mid h
  rw [List.append_assoc, List.cons_append]
  exact pinsOf_at fun y hy => hm y (List.mem_append_left _ hy)
theorem free_tail (R : List It) (k : Int) (p : Nat) : freeOf (R ++ [(k, p + 1)]) = freeOf R := by simp [freeOf]
theorem keys_tail (R : List It) (k : Int) (p : Nat) : keysOf (R ++ [(k, p)]) = keysOf R ++ [k] := by simp [keysOf]
/-- what the law's own loop gathers -/
theorem rest_keys {A : List It} (h : Uniq A) (k : Int) : (keysOf A).filter (fun x => x != k) = keysOf (rm k A) := by
  have self : ∀ (B : List It), (∀ x ∈ B, x.1 ≠ k) → (keysOf B).filter (fun x => x != k) = keysOf B := fun B hB => List.filter_eq_self.2 fun y hy => by
    obtain ⟨x, hx, rfl⟩ := List.mem_map.1 hy
    rw [bne_iff_ne]; exact hB x hx
  rcases split_or k A with hn | ⟨A1, p, A2, rfl, hn⟩
  · rw [rm_no hn]; exact self A hn
  · rw [rm_at hn]
    have hm := uniq_mid h
    have e : keysOf (A1 ++ (k, p) :: A2) = keysOf A1 ++ k :: keysOf A2 := by simp [keysOf]
    rw [e, List.filter_append, List.filter_cons_of_neg (by simp), self A1 hn, self A2 (fun x hx => hm x (by simp [hx]))]
    simp [keysOf]
theorem count_keys {A : List It} (h : Uniq A) (k : Int) : ((keysOf A).filter (fun x => x == k)).length = if (pinsOf k A).isSome then 1 else 0 := by
  have none' : ∀ (B : List It), (∀ x ∈ B, x.1 ≠ k) → (keysOf B).filter (fun x => x == k) = [] := fun B hB => List.filter_eq_nil_iff.2 fun y hy => by
    obtain ⟨x, hx, rfl⟩ := List.mem_map.1 hy
    simpa using hB x hx
  rcases split_or k A with hn | ⟨A1, p, A2, rfl, hn⟩
  · rw [none' A hn, pinsOf_no hn]; rfl
  · have hm := uniq_mid h
    have e : keysOf (A1 ++ (k, p) :: A2) = keysOf A1 ++ k :: keysOf A2 := by simp [keysOf]
    rw [e, List.filter_append, List.filter_cons_of_pos (by simp), none' A1 hn, none' A2 (fun x hx => hm x (by simp [hx])), pinsOf_at hn]
    rfl
end Go.Proofs.Ytpchllepboolhaa.D

namespace Go.Proofs.Ytpchllepboolhaa
open Go.RowKit
attribute [local go_sem] Oper.semAt_some
set_option linter.unusedVariables false
set_option linter.unusedSimpArgs false
set_option maxRecDepth 100000

theorem ret_bool {a b : Bool} (h : a = b) : Ending.returned (.bool a) = .returned (.bool b) := by rw [h]
/-- numbers in a slice -/
structure IRow (w : World) (ao : Option Addr) (l : List Int) : Prop where
  c : ∀ k x, l[k]? = some x → ∃ b off, ao = some ⟨b, off, none⟩ ∧ w.cell? ⟨b, off + k, none⟩ = some (.int .i64 x)
theorem IRow.later {w w' : World} {ao : Option Addr} {l : List Int} (h : IRow w ao l) (hb : Below w.heap.size w w') : IRow w' ao l :=
  ⟨fun k x hx => by obtain ⟨b, off, he, hc⟩ := h.c k x hx; exact ⟨b, off, he, cell_later hb hc⟩⟩
theorem IRow.nil (w : World) (ao : Option Addr) : IRow w ao [] := ⟨fun k x hx => by simp at hx⟩
theorem irow_of {W : World} {B : Nat} {v : Value} {ks : List Int} (h : W.ownsRow B 3 1 v ks.length (ks.map (Value.int .i64))) : ∃ ao cap, v = .slice ao ks.length cap ∧ IRow W ao ks := by
  rcases h.2 with ⟨rfl, h0⟩ | ⟨gv, cap, cur, rfl, hb, hg, hc, _, hsz, ht⟩
  · exact ⟨none, 0, by rw [h0], by rw [List.length_eq_zero_iff.1 h0]; exact IRow.nil _ _⟩
  · refine ⟨_, cap, rfl, ⟨fun k x hx => ⟨gv, 0, rfl, ?_⟩⟩⟩
    have hk := (List.getElem?_eq_some_iff.1 hx).1
    have h1 : (ks.map (Value.int .i64))[k]? = some (.int .i64 x) := by rw [List.getElem?_map, hx]; rfl
    rw [← ht, List.getElem?_take, if_pos (by omega)] at h1
    unfold World.cell?; simp only [hg]; simpa using h1
theorem take_snoc {l : List Int} {k : Nat} {x : Int} (h : l[k]? = some x) : l.take (k + 1) = l.take k ++ [x] := by rw [List.take_add_one, h]; rfl

set_option maxHeartbeats 1000000 in
theorem same_eq (ao bo : Option Addr) (c c' n : Nat) (l m : List Int) (w : World) (HL : Hid (l.length = n)) (HM : Hid (m.length = n)) (hn : n ≤ 17592186044416) (h : Hid (IRow w ao l)) (h' : Hid (IRow w bo m)) :
    Calls Try.prog 35 #[.slice ao n c, .slice bo n c'] w fun e w' => e = .returned (.bool (decide (l = m))) ∧ ∃ q, w' = w.drewN q := by
  go_enter Try.func35, Try.ntmps35
  go_wp2
  go_loopw [5] (fun i wr => ∃ k q : Nat, k ≤ n ∧ i = .int .i64 k ∧ wr = w.drewN q ∧ Hid (l.take k = m.take k)) (fun i _ => n - (intOf i).toNat)
  case atStart => exact ⟨0, 0, Nat.zero_le _, rfl, rfl, rfl⟩
  case round =>
    obtain ⟨k, q, hk, rfl, rfl, HT⟩ := hrel
    by_cases hlt : k < n
    · obtain ⟨x, hx⟩ : ∃ x, l[k]? = some x := ⟨_, List.getElem?_eq_getElem (by have := HL.out; omega)⟩
      obtain ⟨y, hy⟩ : ∃ y, m[k]? = some y := ⟨_, List.getElem?_eq_getElem (by have := HM.out; omega)⟩
      obtain ⟨b, off, rfl, hc⟩ := h.out.c k _ hx
      obtain ⟨b', off', rfl, hd⟩ := h'.out.c k _ hy
      have HX : Hid (l[k]? = some x) := hx
      have HY : Hid (m[k]? = some y) := hy
      clear hx hy
      by_cases hxy : x = y
      · subst hxy
        have HS : Hid (l.take (k + 1) = m.take (k + 1)) := by show _ = _; rw [take_snoc HX.out, take_snoc HY.out, HT.out]
        go_wp2
        go_quiet (fail)
        go_wp2
        go_roundw
        case rel => exact ⟨k + 1, _, by omega, by go_num, rfl, HS⟩
        case measure => simp [intOf]; omega
      · have HS : Hid (¬ l = m) := fun e => hxy (by have h1 := HX.out; rw [e, HY.out] at h1; simpa using h1.symm)
        have hne : (x != y) = true := by rw [bne_iff_ne]; exact hxy
        clear hxy
        go_wp2
        go_quiet (fail)
        go_wp2
        go_ret
        exact ⟨ret_bool (by rw [decide_eq_false HS.out]), q + nq, by rw [World.drewN_drewN]⟩
    · have HE : Hid (l = m) := by
        have := HT.out
        rwa [List.take_of_length_le (by rw [HL.out]; omega), List.take_of_length_le (by rw [HM.out]; omega)] at this
      go_wp2
      go_ret
      exact ⟨ret_bool (by rw [decide_eq_true HE.out]), _, rfl⟩
theorem same_any (ao bo : Option Addr) (c c' : Nat) (l m : List Int) (w : World) (hl : l.length ≤ 17592186044416) (hm : m.length ≤ 17592186044416) (h : IRow w ao l) (h' : IRow w bo m) :
    Calls Try.prog 35 #[.slice ao l.length c, .slice bo m.length c'] w fun e w' => e = .returned (.bool (decide (l = m))) ∧ ∃ q, w' = w.drewN q := by
  by_cases hlen : l.length = m.length
  · have := same_eq ao bo c c' m.length l m w hlen rfl hm h h'
    rw [hlen]; exact this
  · have HE : Hid (decide (l = m) = false) := decide_eq_false fun e => hlen (by rw [e])
    have hne : ((l.length : Int) != (m.length : Int)) = true := by rw [bne_iff_ne]; omega
    generalize l.length = a at *
    generalize m.length = b at *
    clear h h' hlen
    go_enter Try.func35, Try.ntmps35
    go_wp2
    go_ret
    exact ⟨ret_bool (by rw [HE.out]), 0, rfl⟩
end Go.Proofs.Ytpchllepboolhaa
