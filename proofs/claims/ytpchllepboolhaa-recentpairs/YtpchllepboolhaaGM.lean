import Derived.Test.YtpchllepboolhaaDO
namespace Go.Proofs.Ytpchllepboolhaa.D
open Go.Proofs.Ytpchllepboolhaa.I
set_option linter.unusedVariables false

def Uniq (A : List It) : Prop := (A.map (·.1)).Nodup
theorem uniq_kp {W : World} {bo bm g : Nat} {L : List Ent} (h : RO W bo bm g L) : Uniq (L.map I.kp) := by
  unfold Uniq
  rw [List.map_map]
  exact h.kd
theorem uniq_mid {A1 A2 : List It} {k : Int} {p : Nat} (h : Uniq (A1 ++ (k, p) :: A2)) : ∀ x ∈ A1 ++ A2, x.1 ≠ k := by
  unfold Uniq at h
  simp only [List.map_append, List.map_cons, List.nodup_append, List.nodup_cons, List.mem_map, List.mem_cons] at h
  obtain ⟨_, ⟨h2, _⟩, h3⟩ := h
  intro x hx e
  rcases List.mem_append.1 hx with hx | hx
  · exact h3 _ ⟨x, hx, rfl⟩ _ (.inl rfl) e
  · exact h2 ⟨x, hx, e⟩
theorem rm_none {A : List It} (h : Uniq A) (k : Int) : ∀ x ∈ rm k A, x.1 ≠ k := by
  rcases split_or k A with hn | ⟨A1, p, A2, rfl, hn⟩
  · rw [rm_no hn]; exact hn
  · rw [rm_at hn]; exact uniq_mid h
theorem uniq_rm {A : List It} (h : Uniq A) (k : Int) : Uniq (rm k A) := by
  rcases split_or k A with hn | ⟨A1, p, A2, rfl, hn⟩
  · rw [rm_no hn]; exact h
  · rw [rm_at hn]
    unfold Uniq at h ⊢
    simp only [List.map_append, List.map_cons, List.nodup_append, List.nodup_cons, List.mem_cons] at h ⊢
    exact ⟨h.1, h.2.1.2, fun a ha b hb => h.2.2 a ha b (.inr hb)⟩
theorem row_last {A : List It} (h : Uniq A) (k : Int) : (pinsOf k (stp 2 k A)).getD 0 = (pinsOf k A).getD 0 ∧ ans 1 k (stp 2 k A) = !(pinsOf k A).isSome ∧ stp 1 k (stp 2 k A) = rm k A ++ [(k, (pinsOf k A).getD 0)] := by
  rcases split_or k A with hn | ⟨A1, p, A2, rfl, hn⟩
  · simp [stp, ans, pinsOf_no hn, rm_no hn]
  · have hm := uniq_mid h
    have e : pinsOf k (A1 ++ A2 ++ [(k, p)]) = some p := pinsOf_at (A1 := A1 ++ A2) (A2 := []) hm
    simp only [stp, ans, show ¬ (2 : Int) = 1 by decide, if_false, if_true, pinsOf_at hn, rm_at hn, e]
    simp
theorem tail_pin {R : List It} {k : Int} {p : Nat} (h : ∀ x ∈ R, x.1 ≠ k) (hp : p < 2147483647) : ans 4 k (R ++ [(k, p)]) = true ∧ stp 4 k (R ++ [(k, p)]) = R ++ [(k, p + 1)] := by
  have e : pinsOf k (R ++ [(k, p)]) = some p := pinsOf_at (A1 := R) (A2 := []) h
  have e2 : setP k (p + 1) (R ++ [(k, p)]) = R ++ [(k, p + 1)] := setP_at (A1 := R) (A2 := []) h
  simp only [ans, stp, show ¬ (4 : Int) = 1 by decide, show ¬ (4 : Int) = 2 by decide, show ¬ (4 : Int) = 3 by decide, if_false, if_true, e, e2, hp]
  simp
theorem tail_pins {R : List It} {k : Int} {p : Nat} (h : ∀ x ∈ R, x.1 ≠ k) : pinsOf k (R ++ [(k, p)]) = some p := pinsOf_at (A1 := R) (A2 := []) h
theorem tail_drop {R : List It} {k : Int} {p : Nat} (h : ∀ x ∈ R, x.1 ≠ k) : ans 3 k (R ++ [(k, p)]) = true ∧ stp 3 k (R ++ [(k, p)]) = R := by
  have e2 : rm k (R ++ [(k, p)]) = R := by rw [rm_at (A1 := R) (A2 := []) h]; simp
  simp [ans, stp, tail_pins h, e2]
theorem gone_all5 {R : List It} {k : Int} (h : ∀ x ∈ R, x.1 ≠ k) : ans 3 k R = false ∧ stp 3 k R = R ∧ pinsOf k R = none ∧ ans 5 k R = false ∧ stp 5 k R = R ∧ ans 1 k R = true ∧ stp 1 k R = R ++ [(k, 0)] := by
  simp [ans, stp, pinsOf_no h, rm_no h]
theorem pinsOf_app {R : List It} {k : Int} (h : Uniq R) {x : It} (hx : x ∈ R) (B : List It) : pinsOf x.1 (R ++ B) = some x.2 := by
  obtain ⟨R1, R2, rfl⟩ := List.append_of_mem hx
  obtain ⟨a, p⟩ := x
  have hm := uniq_mid h
  rw [List.append_assoc, List.cons_append]
  exact pinsOf_at fun y hy => hm y (List.mem_append_left _ hy)
theorem free_tail (R : List It) (k : Int) (p : Nat) : freeOf (R ++ [(k, p + 1)]) = freeOf R := by simp [freeOf]
theorem keys_tail (R : List It) (k : Int) (p : Nat) : keysOf (R ++ [(k, p)]) = keysOf R ++ [k] := by simp [keysOf]
/-- what the law's own loop gathers -/
theorem rest_keys {A : List It} (h : Uniq A) (k : Int) : (keysOf A).filter (fun x => x != k) = keysOf (rm k A) := by
  have self : ∀ (B : List It), (∀ x ∈ B, x.1 ≠ k) → (keysOf B).filter (fun x => x != k) = keysOf B := fun B hB => List.filter_eq_self.2 fun y hy => by
    obtain ⟨x, hx, rfl⟩ := List.mem_map.1 hy
    rw [bne_iff_ne]; exact hB x hx
  rcases split_or k A with hn | ⟨A1, p, A2, rfl, hn⟩
  · rw [rm_no hn]; exact self A hn
  · rw [rm_at hn]
    have hm := uniq_mid h
    have e : keysOf (A1 ++ (k, p) :: A2) = keysOf A1 ++ k :: keysOf A2 := by simp [keysOf]
    rw [e, List.filter_append, List.filter_cons_of_neg (by simp), self A1 hn, self A2 (fun x hx => hm x (by simp [hx]))]
    simp [keysOf]
theorem count_keys {A : List It} (h : Uniq A) (k : Int) : ((keysOf A).filter (fun x => x == k)).length = if (pinsOf k A).isSome then 1 else 0 := by
  have none' : ∀ (B : List It), (∀ x ∈ B, x.1 ≠ k) → (keysOf B).filter (fun x => x == k) = [] := fun B hB => List.filter_eq_nil_iff.2 fun y hy => by
    obtain ⟨x, hx, rfl⟩ := List.mem_map.1 hy
    simpa using hB x hx
  rcases split_or k A with hn | ⟨A1, p, A2, rfl, hn⟩
  · rw [none' A hn, pinsOf_no hn]; rfl
  · have hm := uniq_mid h
    have e : keysOf (A1 ++ (k, p) :: A2) = keysOf A1 ++ k :: keysOf A2 := by simp [keysOf]
    rw [e, List.filter_append, List.filter_cons_of_pos (by simp), none' A1 hn, none' A2 (fun x hx => hm x (by simp [hx])), pinsOf_at hn]
    rfl
end Go.Proofs.Ytpchllepboolhaa.D
