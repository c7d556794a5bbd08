import Derived.Test.YtjkoambfecmglaaJQ
import Derived.Deep.RegionHeld3
namespace Go.Proofs.Ytjkoambfecmglaa
open Go.RowKit
set_option linter.unusedVariables false
set_option linter.unusedSimpArgs false
set_option maxRecDepth 100000
set_option maxHeartbeats 8000000 in
/-- nothing is owed: nothing lacks -/
theorem lacks_none {W : World} {P dc : Nat} {wa : Option Addr} (h : W.cell? ⟨P, 3, none⟩ = some (.slice wa 0 dc)) (p : Opv) : Calls Try.prog 47 #[.pointer (some ⟨P, 0, none⟩), .agg p.cells] W fun e w' => e = .returned (.bool false) ∧ Below W.heap.size W w' := by
  have HB : Hid (Below W.heap.size W (W.alloc (.cells p.cells 50))) := (Below.refl _ W).alloc (Nat.le_refl _) _
  have c3 : (W.alloc (.cells p.cells 50)).cell? ⟨P, 3, none⟩ = some (.slice wa 0 dc) := cell_later HB.out h
  clear h
  obtain ⟨V, hV⟩ : ∃ V, V = W.alloc (.cells p.cells 50) := ⟨_, rfl⟩
  rw [← hV] at c3 HB
  have HS : Hid (V.drew.cell? ⟨P, 3, none⟩ = some (.slice wa 0 dc)) := c3
  go_enter Try.func47, Try.ntmps47
  go_wp2_with fail
  rw [← hV]
  refine wp_region_held_drew (S := fun w' => w'.cell? ⟨P, 3, none⟩ = some (.slice wa 0 dc)) (by kernel_rfl) ?_ (fun hHeld => ?_)
  · exact HS.out
  refine wpAnyH_take (i := 0) (oi := { dst := some 5, op := Op.move (Operand.tmp 0), type := 56, pos := _, after := #[], guard := none }) (v := ?_) rfl (by kernel_rfl) (by kernel_rfl) (by kernel_rfl) (fun _ _ _ h => h) (Or.inl ⟨by rfl, ?_⟩) (by assumption) ?_
  rotate_left
  · (intro w hSw; (try dsimp only at hSw); go_simp) <;> with_reducible rfl
  try simp only [Act.put, List.setIfInBounds_toArray, List.set_cons_zero, List.set_cons_succ]
  refine wpAnyH_take (i := 1) (oi := { dst := some 6, op := Op.nilCheck (Operand.tmp 5), type := 0, pos := _, after := _, guard := none }) (v := ?_) rfl (by kernel_rfl) (by kernel_rfl) (by kernel_rfl) (fun _ _ _ h => h) (Or.inl ⟨by rfl, ?_⟩) (by assumption) ?_
  rotate_left
  · (intro w hSw; (try dsimp only at hSw); go_simp) <;> with_reducible rfl
  try simp only [Act.put, List.setIfInBounds_toArray, List.set_cons_zero, List.set_cons_succ]
  refine wpAnyH_take (i := 2) (oi := { dst := some 7, op := Op.fieldAddr 61 (Operand.tmp 6) 3, type := 0, pos := _, after := _, guard := none }) (v := ?_) rfl (by kernel_rfl) (by kernel_rfl) (by kernel_rfl) (fun _ _ _ h => h) (Or.inl ⟨by rfl, ?_⟩) (by assumption) ?_
  rotate_left
  · (intro w hSw; (try dsimp only at hSw); go_simp) <;> with_reducible rfl
  try simp only [Act.put, List.setIfInBounds_toArray, List.set_cons_zero, List.set_cons_succ]
  refine wpAnyH_take (i := 3) (oi := { dst := some 8, op := Op.load 24 (Operand.tmp 7), type := 24, pos := _, after := _, guard := none }) (v := ?_) rfl (by kernel_rfl) (by kernel_rfl) (by kernel_rfl) (fun _ _ _ h => h) (Or.inl ⟨by rfl, ?_⟩) (by assumption) ?_
  rotate_left
  · (intro w hSw; (try dsimp only at hSw); go_simp) <;> with_reducible rfl
  try simp only [Act.put, List.setIfInBounds_toArray, List.set_cons_zero, List.set_cons_succ]
  refine wpAnyH_take (i := 4) (oi := { dst := some 9, op := Op.call { callee := Callee.builtin Builtin.len, args := #[Operand.tmp 8], argTypes := #[24] }, type := 3, pos := _, after := _, guard := none }) (v := ?_) rfl (by kernel_rfl) (by kernel_rfl) (by kernel_rfl) (fun _ _ _ h => h) (Or.inl ⟨by rfl, ?_⟩) (by assumption) ?_
  rotate_left
  · (intro w hSw; (try dsimp only at hSw); go_simp) <;> with_reducible rfl
  try simp only [Act.put, List.setIfInBounds_toArray, List.set_cons_zero, List.set_cons_succ]
  refine wpAnyH_take (i := 5) (oi := { dst := some 10, op := Op.binOp BinOp.gtr 3 (Operand.tmp 9) (Operand.const (Value.int IntKind.i64 0)) 3, type := 4, pos := _, after := _, guard := none }) (v := ?_) rfl (by kernel_rfl) (by kernel_rfl) (by kernel_rfl) (fun _ _ _ h => h) (Or.inl ⟨by rfl, ?_⟩) (by assumption) ?_
  rotate_left
  · (intro w hSw; (try dsimp only at hSw); go_simp) <;> with_reducible rfl
  try simp only [Act.put, List.setIfInBounds_toArray, List.set_cons_zero, List.set_cons_succ]
  refine wpAnyH_take (i := 6) (oi := { dst := some 11, op := Op.move (Operand.tmp 10), type := 4, pos := _, after := _, guard := none }) (v := ?_) rfl (by kernel_rfl) (by kernel_rfl) (by kernel_rfl) (fun _ _ _ h => h) (Or.inl ⟨by rfl, ?_⟩) (by assumption) ?_
  rotate_left
  · (intro w hSw; (try dsimp only at hSw); go_simp) <;> with_reducible rfl
  try simp only [Act.put, List.setIfInBounds_toArray, List.set_cons_zero, List.set_cons_succ]
  refine wpAnyH_take (i := 7) (oi := { dst := some 12, op := Op.move (Operand.tmp 0), type := 56, pos := _, after := _, guard := some (6, true) }) (v := undef) rfl (by kernel_rfl) (by kernel_rfl) (by kernel_rfl) (fun _ _ _ h => h) (Or.inr ⟨by rfl, rfl⟩) (by assumption) ?_
  try simp only [Act.put, List.setIfInBounds_toArray, List.set_cons_zero, List.set_cons_succ]
  refine wpAnyH_take (i := 8) (oi := { dst := some 13, op := Op.nilCheck (Operand.tmp 12), type := 0, pos := _, after := _, guard := some (6, true) }) (v := undef) rfl (by kernel_rfl) (by kernel_rfl) (by kernel_rfl) (fun _ _ _ h => h) (Or.inr ⟨by rfl, rfl⟩) (by assumption) ?_
  try simp only [Act.put, List.setIfInBounds_toArray, List.set_cons_zero, List.set_cons_succ]
  refine wpAnyH_take (i := 9) (oi := { dst := some 14, op := Op.fieldAddr 61 (Operand.tmp 13) 0, type := 0, pos := _, after := _, guard := some (6, true) }) (v := undef) rfl (by kernel_rfl) (by kernel_rfl) (by kernel_rfl) (fun _ _ _ h => h) (Or.inr ⟨by rfl, rfl⟩) (by assumption) ?_
  try simp only [Act.put, List.setIfInBounds_toArray, List.set_cons_zero, List.set_cons_succ]
  refine wpAnyH_take (i := 10) (oi := { dst := some 15, op := Op.load 23 (Operand.tmp 14), type := 23, pos := _, after := _, guard := some (6, true) }) (v := undef) rfl (by kernel_rfl) (by kernel_rfl) (by kernel_rfl) (fun _ _ _ h => h) (Or.inr ⟨by rfl, rfl⟩) (by assumption) ?_
  try simp only [Act.put, List.setIfInBounds_toArray, List.set_cons_zero, List.set_cons_succ]
  refine wpAnyH_take (i := 11) (oi := { dst := some 16, op := Op.move (Operand.tmp 0), type := 56, pos := _, after := _, guard := some (6, true) }) (v := undef) rfl (by kernel_rfl) (by kernel_rfl) (by kernel_rfl) (fun _ _ _ h => h) (Or.inr ⟨by rfl, rfl⟩) (by assumption) ?_
  try simp only [Act.put, List.setIfInBounds_toArray, List.set_cons_zero, List.set_cons_succ]
  refine wpAnyH_take (i := 12) (oi := { dst := some 17, op := Op.nilCheck (Operand.tmp 16), type := 0, pos := _, after := _, guard := some (6, true) }) (v := undef) rfl (by kernel_rfl) (by kernel_rfl) (by kernel_rfl) (fun _ _ _ h => h) (Or.inr ⟨by rfl, rfl⟩) (by assumption) ?_
  try simp only [Act.put, List.setIfInBounds_toArray, List.set_cons_zero, List.set_cons_succ]
  refine wpAnyH_take (i := 13) (oi := { dst := some 18, op := Op.fieldAddr 61 (Operand.tmp 17) 3, type := 0, pos := _, after := _, guard := some (6, true) }) (v := undef) rfl (by kernel_rfl) (by kernel_rfl) (by kernel_rfl) (fun _ _ _ h => h) (Or.inr ⟨by rfl, rfl⟩) (by assumption) ?_
  try simp only [Act.put, List.setIfInBounds_toArray, List.set_cons_zero, List.set_cons_succ]
  refine wpAnyH_take (i := 14) (oi := { dst := some 19, op := Op.load 24 (Operand.tmp 18), type := 24, pos := _, after := _, guard := some (6, true) }) (v := undef) rfl (by kernel_rfl) (by kernel_rfl) (by kernel_rfl) (fun _ _ _ h => h) (Or.inr ⟨by rfl, rfl⟩) (by assumption) ?_
  try simp only [Act.put, List.setIfInBounds_toArray, List.set_cons_zero, List.set_cons_succ]
  refine wpAnyH_take (i := 15) (oi := { dst := some 20, op := Op.indexAddr 24 (Operand.tmp 19) (Operand.const (Value.int IntKind.i64 0)), type := 0, pos := _, after := _, guard := some (6, true) }) (v := undef) rfl (by kernel_rfl) (by kernel_rfl) (by kernel_rfl) (fun _ _ _ h => h) (Or.inr ⟨by rfl, rfl⟩) (by assumption) ?_
  try simp only [Act.put, List.setIfInBounds_toArray, List.set_cons_zero, List.set_cons_succ]
  refine wpAnyH_take (i := 16) (oi := { dst := some 21, op := Op.load 3 (Operand.tmp 20), type := 3, pos := _, after := _, guard := some (6, true) }) (v := undef) rfl (by kernel_rfl) (by kernel_rfl) (by kernel_rfl) (fun _ _ _ h => h) (Or.inr ⟨by rfl, rfl⟩) (by assumption) ?_
  try simp only [Act.put, List.setIfInBounds_toArray, List.set_cons_zero, List.set_cons_succ]
  refine wpAnyH_take (i := 17) (oi := { dst := some 22, op := Op.indexAddr 23 (Operand.tmp 15) (Operand.tmp 21), type := 0, pos := _, after := _, guard := some (6, true) }) (v := undef) rfl (by kernel_rfl) (by kernel_rfl) (by kernel_rfl) (fun _ _ _ h => h) (Or.inr ⟨by rfl, rfl⟩) (by assumption) ?_
  try simp only [Act.put, List.setIfInBounds_toArray, List.set_cons_zero, List.set_cons_succ]
  refine wpAnyH_take (i := 18) (oi := { dst := some 23, op := Op.load 50 (Operand.tmp 22), type := 50, pos := _, after := _, guard := some (6, true) }) (v := undef) rfl (by kernel_rfl) (by kernel_rfl) (by kernel_rfl) (fun _ _ _ h => h) (Or.inr ⟨by rfl, rfl⟩) (by assumption) ?_
  try simp only [Act.put, List.setIfInBounds_toArray, List.set_cons_zero, List.set_cons_succ]
  refine wpAnyH_take (i := 19) (oi := { dst := some 24, op := Op.load 50 (Operand.tmp 3), type := 50, pos := _, after := _, guard := some (6, true) }) (v := undef) rfl (by kernel_rfl) (by kernel_rfl) (by kernel_rfl) (fun _ _ _ h => h) (Or.inr ⟨by rfl, rfl⟩) (by assumption) ?_
  try simp only [Act.put, List.setIfInBounds_toArray, List.set_cons_zero, List.set_cons_succ]
  refine wpAnyH_take (i := 20) (oi := { dst := some 25, op := Op.call { callee := Callee.value (Operand.func 54), args := #[Operand.tmp 23, Operand.tmp 24], argTypes := #[50, 50] }, type := 4, pos := _, after := _, guard := some (6, true) }) (v := undef) rfl (by kernel_rfl) (by kernel_rfl) (by kernel_rfl) (fun _ _ _ h => h) (Or.inr ⟨by rfl, rfl⟩) (by assumption) ?_
  try simp only [Act.put, List.setIfInBounds_toArray, List.set_cons_zero, List.set_cons_succ]
  refine wpAnyH_take (i := 21) (oi := { dst := some 26, op := Op.pick (Operand.tmp 11) (Operand.tmp 25) (Operand.const (Value.bool false)), type := 4, pos := _, after := _, guard := none }) (v := ?_) rfl (by kernel_rfl) (by kernel_rfl) (by kernel_rfl) (fun _ _ _ h => h) (Or.inl ⟨by rfl, ?_⟩) (by assumption) ?_
  rotate_left
  · (intro w hSw; (try dsimp only at hSw); go_simp) <;> with_reducible rfl
  try simp only [Act.put, List.setIfInBounds_toArray, List.set_cons_zero, List.set_cons_succ]
  refine wpAnyH_take (i := 22) (oi := { dst := some 4, op := Op.assign (Operand.tmp 26), type := 4, pos := _, after := _, guard := none }) (v := ?_) rfl (by kernel_rfl) (by kernel_rfl) (by kernel_rfl) (fun _ _ _ h => h) (Or.inl ⟨by rfl, ?_⟩) (by assumption) ?_
  rotate_left
  · (intro w hSw; (try dsimp only at hSw); go_simp) <;> with_reducible rfl
  try simp only [Act.put, List.setIfInBounds_toArray, List.set_cons_zero, List.set_cons_succ]
  refine wpAnyH_done (by kernel_rfl) ?_ _
  go_wp2
  go_ret
  exact ⟨rfl, HB.out.trans ⟨rfl, rfl, rfl, Nat.le_refl _, fun _ _ => rfl⟩⟩
end Go.Proofs.Ytjkoambfecmglaa

namespace Go.Proofs.Ytjkoambfecmglaa
open Go.RowKit
set_option linter.unusedVariables false
set_option linter.unusedSimpArgs false
set_option maxRecDepth 100000
/-- place i of the order goes: it is operation k, by its moments, with an answer that fits -/
def Goes (l : List Opv) (dss : List (List Nat)) (ord : List Int) (bs : List Nat) (i k : Nat) (p : Opv) (ds : List Nat) : Prop := ord[i]? = some (k : Int) ∧ ¬ (k : Int) ∈ ord.take i ∧ l[k]? = some p ∧ dss[k]? = some ds ∧ Nxt l (ord.take i) p l.length ∧ p.fit bs ds = true
/-- behind i places of the order the bytes are bs -/
def FolR (l : List Opv) (dss : List (List Nat)) (ord : List Int) (first : List Nat) : Nat → List Nat → Prop
  | 0, bs => bs = first
  | i + 1, bs' => ∃ (k : Nat) (bs ds : List Nat) (p : Opv), FolR l dss ord first i bs ∧ Goes l dss ord bs i k p ds ∧ bs' = p.eff bs ds
theorem FolR.nil {l : List Opv} {dss : List (List Nat)} {ord : List Int} {first : List Nat} : FolR l dss ord first 0 first := Eq.refl first
theorem FolR.step {l : List Opv} {dss : List (List Nat)} {ord : List Int} {first : List Nat} {i k : Nat} {bs ds : List Nat} {p : Opv} (h : FolR l dss ord first i bs) (g : Goes l dss ord bs i k p ds) : FolR l dss ord first (i + 1) (p.eff bs ds) := Exists.intro k (Exists.intro bs (Exists.intro ds (Exists.intro p (And.intro h (And.intro g rfl)))))
theorem FolR.zero {l : List Opv} {dss : List (List Nat)} {ord : List Int} {first bs : List Nat} (h : FolR l dss ord first 0 bs) : bs = first := h
theorem FolR.inv {l : List Opv} {dss : List (List Nat)} {ord : List Int} {first bs' : List Nat} {i : Nat} (h : FolR l dss ord first (i + 1) bs') : ∃ (k : Nat) (bs ds : List Nat) (p : Opv), FolR l dss ord first i bs ∧ Goes l dss ord bs i k p ds ∧ bs' = p.eff bs ds := h
theorem FolR.det {l : List Opv} {dss : List (List Nat)} {ord : List Int} {first : List Nat} : ∀ {i : Nat} {bs bs' : List Nat}, FolR l dss ord first i bs → FolR l dss ord first i bs' → bs = bs'
  | 0, _, _, h, h' => (FolR.zero h).trans (FolR.zero h').symm
  | i + 1, _, _, h9, h9' => by
    obtain ⟨k, bs, ds, p, h, g, e⟩ := FolR.inv h9
    obtain ⟨k', bs2, ds2, p2, h', g', e'⟩ := FolR.inv h9'
    subst e; subst e'
    cases FolR.det h h'
    obtain ⟨a1, _, a2, a3, _, _⟩ := g
    obtain ⟨b1, _, b2, b3, _, _⟩ := g'
    rw [a1] at b1
    have e := Int.ofNat.inj (Option.some.inj b1)
    subst e
    rw [a2] at b2; rw [a3] at b3
    cases b2; cases b3; rfl
/-- operations in memory, with their data -/
structure OpsD (W : World) (ao : Option Addr) (l : List Opv) (dss : List (List Nat)) : Prop where
  ops : OpsR W ao l
  len : dss.length = l.length
  row : ∀ (k : Nat) (p : Opv) (ds : List Nat), l[k]? = some p → dss[k]? = some ds → BRow W p.da p.dc ds ∧ ds.length = p.n
theorem OpsD.later {W V : World} {ao : Option Addr} {l : List Opv} {dss : List (List Nat)} (h : OpsD W ao l dss) (hb : Below W.heap.size W V) : OpsD V ao l dss :=
  ⟨h.ops.later hb, h.len, fun k p ds h1 h2 => ⟨(h.row k p ds h1 h2).1.later hb, (h.row k p ds h1 h2).2⟩⟩
end Go.Proofs.Ytjkoambfecmglaa

namespace Go.Proofs.Ytjkoambfecmglaa
set_option linter.unusedVariables false
set_option linter.unusedSimpArgs false
/-- a walk of the program, as mathematics: behind the operations dn, what was played (pl) and what is owed (ow) -/
structure WkS (l : List Opv) (dn : List Int) (pl : List Bool) (ow : List Nat) : Prop where
  len : pl.length = l.length
  plk : ∀ k : Nat, k < l.length → (pl[k]? = some true ↔ (k : Int) ∈ dn)
  val : ∀ k : Nat, k ∈ ow → ∃ p, l[k]? = some p ∧ p.ans = true
  sorted : ow.Pairwise (fun a b : Nat => ∀ p q : Opv, l[a]? = some p → l[b]? = some q → p.to_ ≤ q.to_)
  all : ∀ (k : Nat) (p : Opv), l[k]? = some p → p.ans = true → ¬ (k : Int) ∈ dn → k ∈ ow
/-- the foremost was not played -/
def HdN (dn : List Int) (ow : List Nat) : Prop := ∀ (h : Nat) (t : List Nat), ow = h :: t → ¬ (h : Int) ∈ dn
theorem Opv.bef_ans {a b : Opv} (h : a.bef b = true) : a.ans = true ∧ a.to_ < b.fr := by
  unfold Opv.bef at h
  rw [Bool.and_eq_true] at h
  exact ⟨h.1, of_decide_eq_true h.2⟩
theorem Opv.bef_of {a b : Opv} (h : a.ans = true) (h2 : a.to_ < b.fr) : a.bef b = true := by
  unfold Opv.bef
  rw [Bool.and_eq_true]
  exact ⟨h, decide_eq_true h2⟩
theorem WkS.nxt_nil {l : List Opv} {dn : List Int} {pl : List Bool} (h : WkS l dn pl []) (p : Opv) : Nxt l dn p l.length := fun j o _ ho hb => by
  by_cases hd : (j : Int) ∈ dn
  · exact hd
  · have := h.all j o ho (Opv.bef_ans hb).1 hd
    cases this
theorem WkS.le_all {l : List Opv} {dn : List Int} {pl : List Bool} {k : Nat} {t : List Nat} (h : WkS l dn pl (k :: t)) {q : Opv} (hq : l[k]? = some q) {j : Nat} {o : Opv} (ho : l[j]? = some o) (hj : j ∈ k :: t) : q.to_ ≤ o.to_ := by
  rcases List.mem_cons.1 hj with rfl | hj
  · rw [hq] at ho; cases ho; exact Int.le_refl _
  · exact (List.pairwise_cons.1 h.sorted).1 j hj q o hq ho
theorem WkS.nxt_cons {l : List Opv} {dn : List Int} {pl : List Bool} {k : Nat} {t : List Nat} (h : WkS l dn pl (k :: t)) {q p : Opv} (hq : l[k]? = some q) (hb : q.bef p = false) : Nxt l dn p l.length := fun j o _ ho hbo => by
  by_cases hd : (j : Int) ∈ dn
  · exact hd
  · obtain ⟨ha, hlt⟩ := Opv.bef_ans hbo
    have h1 := h.le_all hq ho (h.all j o ho ha hd)
    obtain ⟨q', hq', hqa⟩ := h.val k (by simp)
    rw [hq] at hq'; cases hq'
    rw [Opv.bef_of hqa (by omega)] at hb
    cases hb
theorem WkS.nxt_not {l : List Opv} {dn : List Int} {pl : List Bool} {k : Nat} {t : List Nat} (h : WkS l dn pl (k :: t)) (hh : HdN dn (k :: t)) {q p : Opv} (hq : l[k]? = some q) (hb : q.bef p = true) : ¬ Nxt l dn p l.length := fun hn =>
  hh k t rfl (hn k q (List.getElem?_eq_some_iff.1 hq).1 hq hb)
theorem WkS.whole {l : List Opv} {dn : List Int} {pl : List Bool} {ow : List Nat} (h : WkS l dn pl ow) (hh : HdN dn ow) : Whl l dn l.length ↔ ow = [] := by
  constructor
  · intro hw
    cases ow with
    | nil => rfl
    | cons k t =>
      obtain ⟨q, hq, hqa⟩ := h.val k (by simp)
      exact absurd (hw k q (List.getElem?_eq_some_iff.1 hq).1 hq hqa) (hh k t rfl)
  · rintro rfl j o _ ho ha
    by_cases hd : (j : Int) ∈ dn
    · exact hd
    · cases h.all j o ho ha hd
/-- one is played -/
theorem WkS.step {l : List Opv} {dn : List Int} {pl : List Bool} {ow : List Nat} (h : WkS l dn pl ow) {k : Nat} (hk : k < l.length) : WkS l (dn ++ [(k : Int)]) (pl.set k true) ow where
  len := by rw [List.length_set]; exact h.len
  plk j hj := by
    by_cases e : k = j
    · subst e
      rw [List.getElem?_set_self (by rw [h.len]; exact hk)]
      simp
    · rw [List.getElem?_set_ne e, h.plk j hj, List.mem_append, List.mem_singleton]
      constructor
      · exact fun h => .inl h
      · rintro (h1 | h1)
        · exact h1
        · exact absurd (Int.ofNat.inj h1).symm e
  val := h.val
  sorted := h.sorted
  all j p hj ha hd := h.all j p hj ha (fun h1 => hd (List.mem_append_left _ h1))
/-- the foremost was played: it is owed no more -/
theorem WkS.tail {l : List Opv} {dn : List Int} {pl : List Bool} {k : Nat} {t : List Nat} (h : WkS l dn pl (k :: t)) (hd : (k : Int) ∈ dn) : WkS l dn pl t where
  len := h.len
  plk := h.plk
  val j hj := h.val j (List.mem_cons_of_mem _ hj)
  sorted := (List.pairwise_cons.1 h.sorted).2
  all j p hj ha hn := by
    rcases List.mem_cons.1 (h.all j p hj ha hn) with rfl | h1
    · exact absurd hd hn
    · exact h1
end Go.Proofs.Ytjkoambfecmglaa
