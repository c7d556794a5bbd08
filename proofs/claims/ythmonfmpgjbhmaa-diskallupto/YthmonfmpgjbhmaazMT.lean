import Derived.Test.YthmonfmpgjbhmaazMS
namespace Go.Proofs.Ythmonfmpgjbhmaa.K
open Go.RowKit Go.Maps Go.Proofs.Ythmonfmpgjbhmaa
attribute [local go_sem] Oper.semAt_some
set_option linter.unusedVariables false
set_option linter.unusedSimpArgs false
set_option maxRecDepth 100000

theorem PP.queueR {W : World} {b p : Nat} {S T : Dk} {N : Nat} {H : List Nat} (h : PP W b p S T N H) : ∃ rq Q, W.cell? ⟨p, 3, none⟩ = some rq ∧ W.ownsRow 0 TPt 2 rq Q.length (qcells Q) ∧ (∀ x ∈ Q, W.ownsRow 0 5 1 x.2.1 512 (x.2.2.map bv)) ∧ Q.map bare = T.q ∧ ∀ x ∈ Q, OkB x.2.2 := by
  obtain ⟨ms, ml, qv, fv, dv, rq, av, D, Q, hk, hr, hN, hd, rfl⟩ := h.ex
  exact ⟨rq, Q, hr.c 3, hr.qr, fun x hx => hr.dat x (List.mem_append_right _ hx), hr.q, fun x hx => (hr.ok x (List.mem_append_right _ hx)).2⟩
/-- the data of the k-th write -/
def pat (A : List Pv) (k : Nat) : Value := ((A[k]?).map (·.2.1)).getD (.slice none 0 0)
def dvs (A C : List Pv) (i : Nat) : List Vn := (List.range (i * 2)).map fun j => (pat (if j % 2 = 0 then A else C) (j / 2), 512)
theorem dvs_len (A C : List Pv) (i : Nat) : (dvs A C i).length = i * 2 := by simp [dvs]
theorem dvs_succ (A C : List Pv) (i : Nat) : (dvs A C (i + 1)).map (·.1) = (dvs A C i).map (·.1) ++ [pat A i, pat C i] := by
  unfold dvs
  rw [show (i + 1) * 2 = i * 2 + 1 + 1 by omega, List.range_succ, List.range_succ]
  simp only [List.map_append, List.map_cons, List.map_nil, List.append_assoc, List.singleton_append, List.cons_append, List.nil_append]
  rw [if_pos (by omega), if_neg (by omega), show i * 2 / 2 = i by omega, show (i * 2 + 1) / 2 = i by omega]
theorem dvs_at {A C : List Pv} {i j n : Nat} {v : Value} (h : (dvs A C i)[j]? = some (v, n)) : n = 512 ∧ j / 2 < i ∧ v = pat (if j % 2 = 0 then A else C) (j / 2) := by
  have hl := (List.getElem?_eq_some_iff.1 h).1
  rw [dvs_len] at hl
  unfold dvs at h
  rw [List.getElem?_map, List.getElem?_range hl] at h
  simp at h
  exact ⟨h.2.symm, by omega, h.1.symm⟩
theorem pat_at {A : List Pv} {k : Nat} {x : Pv} (h : A[k]? = some x) : pat A k = x.2.1 := by simp [pat, h]
/-- the blocks of the data -/
def dbs (A : List Pv) : List Nat := A.flatMap fun x => x.2.1.ownBlock.toList
theorem mem_dbs {A : List Pv} {g : Nat} : g ∈ dbs A ↔ ∃ x ∈ A, x.2.1.ownBlock = some g := by simp [dbs, List.mem_flatMap]
theorem told_ls {W : World} {A C : List Pv} {B B1 : Nat} {tv : Value} (hr : W.ownsRow B TBs 1 tv (A.length * 2) ((dvs A C A.length).map (·.1))) (hl : C.length = A.length)
    (d1 : ∀ x ∈ A, W.ownsRow 0 5 1 x.2.1 512 (x.2.2.map bv)) (d2 : ∀ x ∈ C, W.ownsRow B1 5 1 x.2.1 512 (x.2.2.map bv)) (hA : ∀ x ∈ A, ∀ g, x.2.1.ownBlock = some g → g < B1)
    (t1 : A.Pairwise fun p q => p.2.1.ownBlock ≠ q.2.1.ownBlock) (t2 : C.Pairwise fun p q => p.2.1.ownBlock ≠ q.2.1.ownBlock) (hok : ∀ x ∈ A ++ C, x.2.2.length = 512) :
    Ls W (dbs A ++ dbs C) tv (dvs A C A.length) ∧ Mk W (dvs A C A.length) 0 0 := by
  have hat : ∀ (j n : Nat) (v : Value), (dvs A C A.length)[j]? = some (v, n) → n = 512 ∧ ∃ x, (if j % 2 = 0 then A else C)[j / 2]? = some x ∧ v = x.2.1 := fun j n v h => by
    obtain ⟨h1, h2, h3⟩ := dvs_at h
    obtain ⟨x, hx⟩ : ∃ x, (if j % 2 = 0 then A else C)[j / 2]? = some x := ⟨_, List.getElem?_eq_getElem (by split <;> omega)⟩
    exact ⟨h1, x, hx, by rw [h3, pat_at hx]⟩
  have hmem : ∀ (j : Nat) (x : Pv), (if j % 2 = 0 then A else C)[j / 2]? = some x → x ∈ A ∨ x ∈ C := fun j x h => by
    split at h
    · exact .inl (List.mem_of_getElem? h)
    · exact .inr (List.mem_of_getElem? h)
  have hrow : ∀ x, x ∈ A ∨ x ∈ C → W.ownsRow 0 5 1 x.2.1 512 (x.2.2.map bv) := fun x h => h.elim (d1 x) (fun h => owns_mono (d2 x h) (Nat.zero_le _))
  have hpw : ∀ {L : List Pv}, L.Pairwise (fun p q => p.2.1.ownBlock ≠ q.2.1.ownBlock) → ∀ (k k' : Nat) x y, L[k]? = some x → L[k']? = some y → k ≠ k' → x.2.1.ownBlock ≠ y.2.1.ownBlock := fun {L} hp k k' x y hx hy hne => by
    obtain ⟨l1, rfl⟩ := List.getElem?_eq_some_iff.1 hx
    obtain ⟨l2, rfl⟩ := List.getElem?_eq_some_iff.1 hy
    rw [List.pairwise_iff_getElem] at hp
    rcases Nat.lt_or_gt_of_ne hne with h | h
    · exact hp k k' l1 l2 h
    · exact fun e => hp k' k l2 l1 h e.symm
  have hcross : ∀ x ∈ A, ∀ y ∈ C, x.2.1.ownBlock ≠ y.2.1.ownBlock := fun x hx y hy e => by
    obtain ⟨g, c, cur, e2, hg, _⟩ := own_form (d2 y hy) (by decide)
    rw [e2] at e
    have := hA x hx g e
    omega
  refine ⟨⟨by rw [dvs_len]; exact owns_mono hr (Nat.zero_le _), fun j v n h => ?_, fun j j' v n v' n' h h' hne => ?_⟩, fun j v n h => ?_⟩
  · obtain ⟨rfl, x, hx, rfl⟩ := hat j n v h
    obtain ⟨g, c, cur, e2, hg, _⟩ := own_form (hrow x (hmem j x hx)) (by decide)
    refine ⟨by decide, by decide, g, c, e2, ?_⟩
    rcases hmem j x hx with h1 | h1
    · exact List.mem_append_left _ (mem_dbs.2 ⟨x, h1, by rw [e2]; rfl⟩)
    · exact List.mem_append_right _ (mem_dbs.2 ⟨x, h1, by rw [e2]; rfl⟩)
  · obtain ⟨_, x, hx, rfl⟩ := hat j n v h
    obtain ⟨_, y, hy, rfl⟩ := hat j' n' v' h'
    by_cases e1 : j % 2 = 0 <;> by_cases e2 : j' % 2 = 0
    · rw [if_pos e1] at hx
      rw [if_pos e2] at hy
      exact hpw t1 _ _ x y hx hy (by omega)
    · rw [if_pos e1] at hx
      rw [if_neg e2] at hy
      exact hcross x (List.mem_of_getElem? hx) y (List.mem_of_getElem? hy)
    · rw [if_neg e1] at hx
      rw [if_pos e2] at hy
      exact fun e => hcross y (List.mem_of_getElem? hy) x (List.mem_of_getElem? hx) e.symm
    · rw [if_neg e1] at hx
      rw [if_neg e2] at hy
      exact hpw t2 _ _ x y hx hy (by omega)
  · obtain ⟨rfl, x, hx, rfl⟩ := hat j n v h
    exact ⟨x.2.2, hok x (List.mem_append.2 (hmem j x hx)), hrow x (hmem j x hx), fun t ht hc => by omega⟩
/-- the rows while they are walked -/
structure Tq (W0 wr : World) (H : List Nat) (B : Nat) (tv v1 v2 : Value) (A C : List Pv) (i : Nat) : Prop where
  kp : Kp W0 wr H
  tr : wr.ownsRow B TBs 1 tv (i * 2) ((dvs A C i).map (·.1))
  r1 : ∀ g, v1.ownBlock = some g → ∃ cur, wr.heap[g]? = some (.cells cur TPt (0, 0)) ∧ A.length * 2 ≤ cur.size ∧ ∀ (j : Nat) (x : Pv), A[j]? = some x → cur[j * 2 + 1]? = some x.2.1
  r2 : wr.ownsRow 0 TPt 2 v2 C.length (qcells C)
  d1 : ∀ x ∈ A, wr.ownsRow 0 5 1 x.2.1 512 (x.2.2.map bv)
  d2 : ∀ x ∈ C, wr.ownsRow 0 5 1 x.2.1 512 (x.2.2.map bv)
theorem qcells_at {Q : List Pv} {j : Nat} {x : Pv} (h : Q[j]? = some x) : (qcells Q)[j * 2]? = some (.int .i64 x.1) ∧ (qcells Q)[j * 2 + 1]? = some x.2.1 := by
  induction Q generalizing j with
  | nil => simp at h
  | cons a l ih =>
    cases j with
    | zero => simp at h; subst h; simp [qcells, qcell]
    | succ j =>
      simp only [List.getElem?_cons_succ] at h
      have := ih h
      simp only [qcells, List.flatMap_cons, qcell] at this ⊢
      rw [show (j + 1) * 2 = j * 2 + 2 by omega, show j * 2 + 2 + 1 = j * 2 + 1 + 2 by omega]
      simpa using this
end Go.Proofs.Ythmonfmpgjbhmaa.K
