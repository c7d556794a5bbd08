import Derived.Test.YtpchllepboolhaaDM
import Derived.Test.YtpchllepboolhaaV9
import Derived.Test.YtpchllepboolhaazROI
namespace Go.Proofs.Ytpchllepboolhaa.I
open Go.RowKit Go.Proofs.Ytpchllepboolhaa.D
set_option linter.unusedVariables false
set_option maxRecDepth 100000

/-- what is answered -/
def ans (kind k : Int) (A : List It) : Bool :=
  if kind = 1 then (pinsOf k A).isNone
  else if kind = 2 then (pinsOf k A).isSome
  else if kind = 3 then (pinsOf k A).isSome
  else if kind = 4 then (match pinsOf k A with | some p => decide (p < 2147483647) | none => false)
  else if kind = 5 then (match pinsOf k A with | some p => decide (p ≠ 0) | none => false)
  else false
def kp (e : Ent) : It := (e.key, e.pins)
theorem kp_split {L : List Ent} {A1 A2 : List It} {k : Int} {p : Nat} (h : L.map kp = A1 ++ (k, p) :: A2) : ∃ L1 e L2, L = L1 ++ e :: L2 ∧ L1.map kp = A1 ∧ e.key = k ∧ e.pins = p ∧ L2.map kp = A2 := by
  rw [List.map_eq_append_iff] at h
  obtain ⟨L1, L3, rfl, h1, h2⟩ := h
  rw [List.map_eq_cons_iff] at h2
  obtain ⟨e, L2, rfl, h3, h4⟩ := h2
  exact ⟨L1, e, L2, rfl, h1, congrArg Prod.fst h3, congrArg Prod.snd h3, h4⟩
theorem kp_no {L : List Ent} {k : Int} (h : ∀ x ∈ L.map kp, x.1 ≠ k) : ∀ e ∈ L, e.key ≠ k := fun e he => h (kp e) (List.mem_map.2 ⟨e, he, rfl⟩)

/-- one call on the order, in the words of the row of keys -/
def OCall (f : Nat) (kind : Int) (w : World) (bo bm g : Nat) (L : List Ent) (k : Int) : Prop :=
  Calls Try.prog f #[.pointer (some ⟨bo, 0, none⟩), .int .i64 k] w fun r w' => r = .returned (.bool (ans kind k (L.map kp))) ∧ ∃ L', Act w w' bo bm g L L' ∧ L'.map kp = stp kind k (L.map kp)

theorem o_add {w : World} {bo bm g : Nat} {L : List Ent} (h : RO w bo bm g L) {k : Int} (hk : wfK k) (hl : L.length < maxLen) : OCall 34 1 w bo bm g L k := by
  unfold OCall ans stp
  simp only [if_true]
  rcases split_or k (L.map kp) with hn | ⟨A1, p, A2, hA, hn⟩
  · rw [pinsOf_no hn]
    refine (add_new h hk (kp_no hn) hl).mono ?_
    rintro r w' ⟨rfl, q, ha⟩
    exact ⟨rfl, _, ha, by simp [kp]⟩
  · obtain ⟨L1, e, L2, rfl, rfl, rfl, rfl, rfl⟩ := kp_split hA
    rw [hA, pinsOf_at hn]
    refine (add_old h (e := e) (by simp)).mono ?_
    rintro r w' ⟨rfl, rfl⟩
    exact ⟨rfl, _, Act.refl h, hA⟩
theorem o_touch {w : World} {bo bm g : Nat} {L : List Ent} (h : RO w bo bm g L) {k : Int} (hk : wfK k) : OCall 30 2 w bo bm g L k := by
  unfold OCall ans stp
  simp only [show ¬ (2 : Int) = 1 by decide, if_false, if_true]
  rcases split_or k (L.map kp) with hn | ⟨A1, p, A2, hA, hn⟩
  · rw [pinsOf_no hn]
    refine (touch_no h hk (kp_no hn)).mono ?_
    rintro r w' ⟨rfl, rfl⟩
    exact ⟨rfl, _, Act.refl h, rfl⟩
  · obtain ⟨L1, e, L2, rfl, rfl, rfl, rfl, rfl⟩ := kp_split hA
    rw [hA, pinsOf_at hn, rm_at hn]
    refine (touch_any h).mono ?_
    rintro r w' ⟨rfl, ha⟩
    exact ⟨rfl, _, ha, by simp [kp]⟩
theorem o_drop {w : World} {bo bm g : Nat} {L : List Ent} (h : RO w bo bm g L) {k : Int} (hk : wfK k) : OCall 33 3 w bo bm g L k := by
  unfold OCall ans stp
  simp only [show ¬ (3 : Int) = 1 by decide, show ¬ (3 : Int) = 2 by decide, if_false, if_true]
  rcases split_or k (L.map kp) with hn | ⟨A1, p, A2, hA, hn⟩
  · rw [pinsOf_no hn, rm_no hn]
    refine (drop_no h hk (kp_no hn)).mono ?_
    rintro r w' ⟨rfl, rfl⟩
    exact ⟨rfl, _, Act.refl h, rfl⟩
  · obtain ⟨L1, e, L2, rfl, rfl, rfl, rfl, rfl⟩ := kp_split hA
    rw [hA, pinsOf_at hn, rm_at hn]
    refine (drop_any h).mono ?_
    rintro r w' ⟨rfl, ha⟩
    exact ⟨rfl, _, ha, by simp⟩
theorem o_pin {w : World} {bo bm g : Nat} {L : List Ent} (h : RO w bo bm g L) {k : Int} (hk : wfK k) : OCall 41 4 w bo bm g L k := by
  unfold OCall ans stp
  simp only [show ¬ (4 : Int) = 1 by decide, show ¬ (4 : Int) = 2 by decide, show ¬ (4 : Int) = 3 by decide, if_false, if_true]
  rcases split_or k (L.map kp) with hn | ⟨A1, p, A2, hA, hn⟩
  · rw [pinsOf_no hn]
    refine (pin_no h hk (kp_no hn)).mono ?_
    rintro r w' ⟨rfl, rfl⟩
    exact ⟨rfl, _, Act.refl h, rfl⟩
  · obtain ⟨L1, e, L2, rfl, rfl, rfl, rfl, rfl⟩ := kp_split hA
    rw [hA, pinsOf_at hn]
    simp only
    rw [setP_at hn]
    by_cases hp : e.pins < 2147483647
    · rw [if_pos hp, decide_eq_true hp]
      refine (pin_any h hp).mono ?_
      rintro r w' ⟨rfl, ha⟩
      exact ⟨rfl, _, ha, by simp [kp]⟩
    · rw [if_neg hp, decide_eq_false hp]
      refine (pin_full h (e := e) (by simp) (Nat.not_lt.1 hp)).mono ?_
      rintro r w' ⟨rfl, rfl⟩
      exact ⟨rfl, _, Act.refl h, hA⟩
theorem o_unpin {w : World} {bo bm g : Nat} {L : List Ent} (h : RO w bo bm g L) {k : Int} (hk : wfK k) : OCall 43 5 w bo bm g L k := by
  unfold OCall ans stp
  simp only [show ¬ (5 : Int) = 1 by decide, show ¬ (5 : Int) = 2 by decide, show ¬ (5 : Int) = 3 by decide, show ¬ (5 : Int) = 4 by decide, if_false, if_true]
  rcases split_or k (L.map kp) with hn | ⟨A1, p, A2, hA, hn⟩
  · rw [pinsOf_no hn]
    refine (unpin_no h hk (kp_no hn)).mono ?_
    rintro r w' ⟨rfl, rfl⟩
    exact ⟨rfl, _, Act.refl h, rfl⟩
  · obtain ⟨L1, e, L2, rfl, rfl, rfl, rfl, rfl⟩ := kp_split hA
    rw [hA, pinsOf_at hn]
    simp only
    rw [setP_at hn]
    by_cases hp : e.pins = 0
    · rw [if_pos hp, decide_eq_false (fun h => h hp)]
      refine (unpin_zero h (e := e) (by simp) hp).mono ?_
      rintro r w' ⟨rfl, rfl⟩
      exact ⟨rfl, _, Act.refl h, hA⟩
    · rw [if_neg hp, decide_eq_true hp]
      refine (unpin_any h hp).mono ?_
      rintro r w' ⟨rfl, ha⟩
      exact ⟨rfl, _, ha, by simp [kp]⟩
theorem o_pins {w : World} {bo bm g : Nat} {L : List Ent} (h : RO w bo bm g L) {k : Int} (hk : wfK k) :
    Calls Try.prog 39 #[.pointer (some ⟨bo, 0, none⟩), .int .i64 k] w fun r w' => r = .returned (.int .i64 ((pinsOf k (L.map kp)).getD 0 : Nat)) ∧ w' = w := by
  rcases split_or k (L.map kp) with hn | ⟨A1, p, A2, hA, hn⟩
  · rw [pinsOf_no hn]; exact pins_no h hk (kp_no hn)
  · obtain ⟨L1, e, L2, rfl, rfl, rfl, rfl, rfl⟩ := kp_split hA
    rw [hA, pinsOf_at hn]
    exact pins_any h (e := e) (by simp)
theorem o_has {w : World} {bo bm g : Nat} {L : List Ent} (h : RO w bo bm g L) {k : Int} (hk : wfK k) :
    Calls Try.prog 40 #[.pointer (some ⟨bo, 0, none⟩), .int .i64 k] w fun r w' => r = .returned (.bool (pinsOf k (L.map kp)).isSome) ∧ w' = w := by
  rcases split_or k (L.map kp) with hn | ⟨A1, p, A2, hA, hn⟩
  · rw [pinsOf_no hn]; exact has_no h hk (kp_no hn)
  · obtain ⟨L1, e, L2, rfl, rfl, rfl, rfl, rfl⟩ := kp_split hA
    rw [hA, pinsOf_at hn]
    exact has_any h (e := e) (by simp)
theorem oldest_kp (L : List Ent) : oldest L = oldOf (L.map kp) := by
  induction L with
  | nil => rfl
  | cons e L ih =>
    unfold oldest
    by_cases hp : e.pins = 0
    · rw [if_pos hp]; simp [oldOf, freeOf, kp, hp]
    · rw [if_neg hp, ih]; simp [oldOf, freeOf, kp, hp]
theorem o_oldest {w : World} {bo bm g : Nat} {L : List Ent} (h : RO w bo bm g L) :
    Calls Try.prog 32 #[.pointer (some ⟨bo, 0, none⟩)] w fun r w' => r = .returned (.tuple #[.int .i64 ((oldOf (L.map kp)).getD 0), .bool (oldOf (L.map kp)).isSome]) ∧ Below w.heap.size w w' := by
  have := oldest_any h
  rw [oldest_kp] at this
  exact this
end Go.Proofs.Ytpchllepboolhaa.I
