import Derived.Test.YtjkoambfecmglaaVPz
namespace Go.Proofs.Ytjkoambfecmglaa
set_option linter.unusedVariables false
set_option linter.unusedSimpArgs false
/-- a walk of the program, as mathematics: behind the operations dn, what was played (pl) and what is owed (ow) -/
structure WkS (l : List Opv) (dn : List Int) (pl : List Bool) (ow : List Nat) : Prop where
  len : pl.length = l.length
  plk : ∀ k : Nat, k < l.length → (pl[k]? = some true ↔ (k : Int) ∈ dn)
  val : ∀ k : Nat, k ∈ ow → ∃ p, l[k]? = some p ∧ p.ans = true
  sorted : ow.Pairwise (fun a b : Nat => ∀ p q : Opv, l[a]? = some p → l[b]? = some q → p.to_ ≤ q.to_)
  all : ∀ (k : Nat) (p : Opv), l[k]? = some p → p.ans = true → ¬ (k : Int) ∈ dn → k ∈ ow
/-- the foremost was not played -/
def HdN (dn : List Int) (ow : List Nat) : Prop := ∀ (h : Nat) (t : List Nat), ow = h :: t → ¬ (h : Int) ∈ dn
theorem Opv.bef_ans {a b : Opv} (h : a.bef b = true) : a.ans = true ∧ a.to_ < b.fr := by
  unfold Opv.bef at h
  rw [Bool.and_eq_true] at h
  exact ⟨h.1, of_decide_eq_true h.2⟩
theorem Opv.bef_of {a b : Opv} (h : a.ans = true) (h2 : a.to_ < b.fr) : a.bef b = true := by
  unfold Opv.bef
  rw [Bool.and_eq_true]
  exact ⟨h, decide_eq_true h2⟩
theorem WkS.nxt_nil {l : List Opv} {dn : List Int} {pl : List Bool} (h : WkS l dn pl []) (p : Opv) : Nxt l dn p l.length := fun j o _ ho hb => by
  by_cases hd : (j : Int) ∈ dn
  · exact hd
  · have := h.all j o ho (Opv.bef_ans hb).1 hd
    cases this
theorem WkS.le_all {l : List Opv} {dn : List Int} {pl : List Bool} {k : Nat} {t : List Nat} (h : WkS l dn pl (k :: t)) {q : Opv} (hq : l[k]? = some q) {j : Nat} {o : Opv} (ho : l[j]? = some o) (hj : j ∈ k :: t) : q.to_ ≤ o.to_ := by
  rcases List.mem_cons.1 hj with rfl | hj
  · rw [hq] at ho; cases ho; exact Int.le_refl _
  · exact (List.pairwise_cons.1 h.sorted).1 j hj q o hq ho
theorem WkS.nxt_cons {l : List Opv} {dn : List Int} {pl : List Bool} {k : Nat} {t : List Nat} (h : WkS l dn pl (k :: t)) {q p : Opv} (hq : l[k]? = some q) (hb : q.bef p = false) : Nxt l dn p l.length := fun j o _ ho hbo => by
  by_cases hd : (j : Int) ∈ dn
  · exact hd
  · obtain ⟨ha, hlt⟩ := Opv.bef_ans hbo
    have h1 := h.le_all hq ho (h.all j o ho ha hd)
    obtain ⟨q', hq', hqa⟩ := h.val k (by simp)
    rw [hq] at hq'; cases hq'
    rw [Opv.bef_of hqa (by omega)] at hb
    cases hb
theorem WkS.nxt_not {l : List Opv} {dn : List Int} {pl : List Bool} {k : Nat} {t : List Nat} (h : WkS l dn pl (k :: t)) (hh : HdN dn (k :: t)) {q p : Opv} (hq : l[k]? = some q) (hb : q.bef p = true) : ¬ Nxt l dn p l.length := fun hn =>
  hh k t rfl (hn k q (List.getElem?_eq_some_iff.1 hq).1 hq hb)
theorem WkS.whole {l : List Opv} {dn : List Int} {pl : List Bool} {ow : List Nat} (h : WkS l dn pl ow) (hh : HdN dn ow) : Whl l dn l.length ↔ ow = [] := by
  constructor
  · intro hw
    cases ow with
    | nil => rfl
    | cons k t =>
      obtain ⟨q, hq, hqa⟩ := h.val k (by simp)
      exact absurd (hw k q (List.getElem?_eq_some_iff.1 hq).1 hq hqa) (hh k t rfl)
  · rintro rfl j o _ ho ha
    by_cases hd : (j : Int) ∈ dn
    · exact hd
    · cases h.all j o ho ha hd
/-- one is played -/
theorem WkS.step {l : List Opv} {dn : List Int} {pl : List Bool} {ow : List Nat} (h : WkS l dn pl ow) {k : Nat} (hk : k < l.length) : WkS l (dn ++ [(k : Int)]) (pl.set k true) ow where
  len := by rw [List.length_set]; exact h.len
  plk j hj := by
    by_cases e : k = j
    · subst e
      rw [List.getElem?_set_self (by rw [h.len]; exact hk)]
      simp
    · rw [List.getElem?_set_ne e, h.plk j hj, List.mem_append, List.mem_singleton]
      constructor
      · exact fun h => .inl h
      · rintro (h1 | h1)
        · exact h1
        · exact absurd (Int.ofNat.inj h1).symm e
  val := h.val
  sorted := h.sorted
  all j p hj ha hd := h.all j p hj ha (fun h1 => hd (List.mem_append_left _ h1))
/-- the foremost was played: it is owed no more -/
theorem WkS.tail {l : List Opv} {dn : List Int} {pl : List Bool} {k : Nat} {t : List Nat} (h : WkS l dn pl (k :: t)) (hd : (k : Int) ∈ dn) : WkS l dn pl t where
  len := h.len
  plk := h.plk
  val j hj := h.val j (List.mem_cons_of_mem _ hj)
  sorted := (List.pairwise_cons.1 h.sorted).2
  all j p hj ha hn := by
    rcases List.mem_cons.1 (h.all j p hj ha hn) with rfl | h1
    · exact absurd hd hn
    · exact h1
end Go.Proofs.Ytjkoambfecmglaa
