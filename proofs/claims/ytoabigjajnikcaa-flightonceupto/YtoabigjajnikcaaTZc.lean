import Derived.Test.YtoabigjajnikcaaTZa
namespace Go.Proofs.Ytoabigjajnikcaa
open Go.RowKit Go.Maps
attribute [local go_sem] Oper.semAt_some
set_option linter.unusedVariables false
set_option linter.unusedSimpArgs false
set_option maxRecDepth 100000

section
variable {w : World} {n0 : Nat} {F G : Nat → Prop} {b bm p : Nat} {V U : Int → Value} {v : Value} {S : St}
/-- what Done answers, and what it leaves -/
def doneE (S : St) (k : Int) : Int := match S.L.find? (fun e => e.id == k) with
  | none => 132
  | some e => if e.rd then 133 else 0
def doneT (S : St) (k : Int) (l : List Nat) : St := if doneE S k = 0 then doneS S k l else S
theorem find_at {S : St} (hok : SOk S) {i : Nat} {e : En} (he : S.L[i]? = some e) : S.L.find? (fun x => x.id == e.id) = some e := by
  cases hf : S.L.find? (fun x => x.id == e.id) with
  | none =>
    rw [List.find?_eq_none] at hf
    exact absurd (hf e (List.mem_of_getElem? he)) (by simp)
  | some x =>
    have h1 := List.mem_of_find?_eq_some hf
    have h2 := List.find?_some hf
    rw [id_inj hok.rise x h1 e (List.mem_of_getElem? he) (by simpa using h2)]
theorem find_none {S : St} {k : Int} (h : k ∉ ids S.L) : S.L.find? (fun x => x.id == k) = none := by
  rw [List.find?_eq_none]
  intro x hx e
  exact h (by rw [← (by simpa using e : x.id = k)]; exact ids_mem hx)
theorem doneC (h : RT w F b bm V S) (k : Int) (hk : (Lit.int .i64 k).wf = true) (sa : Option Addr) (sc n : Nat) (l : List Nat) (hl : BRow w sa sc l) (HN : Hid (l.length = n)) : Calls Try.prog 19 #[.pointer (some ⟨b, 0, none⟩), .int .i64 k, .slice sa n sc] w fun r w' => r = .returned (.int .i64 (doneE S k)) ∧ ∃ F' V', TAct w w' F F' b bm V' (doneT S k l) := by
  rcases mem_or (k := k) (L := S.L) with ⟨i, e, he, rfl⟩ | hno
  · by_cases hr : e.rd = true
    · have e1 : doneE S e.id = 133 := by unfold doneE; rw [find_at h.ok he]; simp [hr]
      rw [doneT, e1, if_neg (by decide)]
      refine (done_rdy h e (List.mem_of_getElem? he) hr _).mono ?_
      rintro r w' ⟨rfl, hb⟩
      exact ⟨rfl, F, V, h.later hb, KeptIn.ofBelow hb, fun g hg => .inl hg⟩
    · have e1 : doneE S e.id = 0 := by unfold doneE; rw [find_at h.ok he]; simp [hr]
      rw [doneT, e1, if_pos rfl]
      exact done_ok h e (List.mem_of_getElem? he) (by simpa using hr) sa sc n l hl HN
  · have e1 : doneE S k = 132 := by unfold doneE; rw [find_none hno]
    rw [doneT, e1, if_neg (by decide)]
    refine (done_no h k hno hk _).mono ?_
    rintro r w' ⟨rfl, hb⟩
    exact ⟨rfl, F, V, h.later hb, KeptIn.ofBelow hb, fun g hg => .inl hg⟩
theorem rdoneC (h : RR w G p v U S) (k : Int) (sa : Option Addr) (sc n : Nat) (l : List Nat) (hl : BRow w sa sc l) (hln : ∀ a, sa = some a → l ≠ [] → v.ownBlock ≠ some a.block) (HN : Hid (l.length = n)) : Calls Try.prog 28 #[.pointer (some ⟨p, 0, none⟩), .int .i64 k, .slice sa n sc] w fun r w' => r = .returned (.int .i64 (doneE S k)) ∧ ∃ G' v' U', RAct w w' G G' p v v' U' (doneT S k l) := by
  rcases mem_or (k := k) (L := S.L) with ⟨i, e, he, rfl⟩ | hno
  · by_cases hr : e.rd = true
    · have e1 : doneE S e.id = 133 := by unfold doneE; rw [find_at h.ok he]; simp [hr]
      rw [doneT, e1, if_neg (by decide)]
      refine (rdone_rdy h i e he hr _).mono ?_
      rintro r w' ⟨rfl, rfl⟩
      exact ⟨rfl, G, v, U, h, KeptIn.refl _ _, fun g hg => .inl hg⟩
    · have e1 : doneE S e.id = 0 := by unfold doneE; rw [find_at h.ok he]; simp [hr]
      rw [doneT, e1, if_pos rfl]
      refine (rdone_ok h i e he (by simpa using hr) sa sc n l hl hln HN).mono ?_
      rintro r w' ⟨rfl, G', U', ha⟩
      exact ⟨rfl, G', v, U', ha⟩
  · have e1 : doneE S k = 132 := by unfold doneE; rw [find_none hno]
    rw [doneT, e1, if_neg (by decide)]
    refine (rdone_no h k hno _).mono ?_
    rintro r w' ⟨rfl, rfl⟩
    exact ⟨rfl, G, v, U, h, KeptIn.refl _ _, fun g hg => .inl hg⟩
def takeE (S : St) (k : Int) : Int := match S.L.find? (fun e => e.id == k) with
  | none => 132
  | some e => if e.rd then 0 else 133
def takeA (S : St) (k : Int) : List Nat := match S.L.find? (fun e => e.id == k) with
  | none => []
  | some e => if e.rd then e.an else []
def takeT (S : St) (k : Int) : St := if takeE S k = 0 then takeS S k else S
theorem doneT_last (S : St) (k : Int) (l : List Nat) : (doneT S k l).last = S.last := by unfold doneT; split <;> rfl
theorem takeT_last (S : St) (k : Int) : (takeT S k).last = S.last := by unfold takeT; split <;> rfl
theorem takeC (h : RT w F b bm V S) (k : Int) (hk : (Lit.int .i64 k).wf = true) : Calls Try.prog 21 #[.pointer (some ⟨b, 0, none⟩), .int .i64 k] w fun r w' => ∃ ao cap, r = .returned (.tuple #[.slice ao (takeA S k).length cap, .int .i64 (takeE S k)]) ∧ w'.ownsRow w.heap.size 5 1 (.slice ao (takeA S k).length cap) (takeA S k).length ((takeA S k).map bv) ∧ (∀ x ∈ takeA S k, x < 256) ∧ (takeA S k).length ≤ 140737488351232 ∧ TAct w w' F F b bm V (takeT S k) := by
  have bad : ∀ er, takeE S k = er → er ≠ 0 → takeA S k = [] → (Calls Try.prog 21 #[.pointer (some ⟨b, 0, none⟩), .int .i64 k] w fun r w' => r = .returned (.tuple #[.slice none 0 0, .int .i64 er]) ∧ Below w.heap.size w w') → Calls Try.prog 21 #[.pointer (some ⟨b, 0, none⟩), .int .i64 k] w fun r w' => ∃ ao cap, r = .returned (.tuple #[.slice ao (takeA S k).length cap, .int .i64 (takeE S k)]) ∧ w'.ownsRow w.heap.size 5 1 (.slice ao (takeA S k).length cap) (takeA S k).length ((takeA S k).map bv) ∧ (∀ x ∈ takeA S k, x < 256) ∧ (takeA S k).length ≤ 140737488351232 ∧ TAct w w' F F b bm V (takeT S k) := fun er h1 h2 h3 hc => by
    rw [takeT, h1, if_neg h2, h3]
    refine hc.mono ?_
    rintro r w' ⟨rfl, hb⟩
    exact ⟨none, 0, rfl, World.ownsRow_nil _ _ _ _, by simp, by simp, h.later hb, KeptIn.ofBelow hb, fun g hg => .inl hg⟩
  rcases mem_or (k := k) (L := S.L) with ⟨i, e, he, rfl⟩ | hno
  · by_cases hr : e.rd = true
    · have e1 : takeE S e.id = 0 := by unfold takeE; rw [find_at h.ok he]; simp [hr]
      have e2 : takeA S e.id = e.an := by unfold takeA; rw [find_at h.ok he]; simp [hr]
      rw [takeT, e1, if_pos rfl, e2]
      obtain ⟨_, _, _, _, _, _, r2⟩ := (h.pv e (List.mem_of_getElem? he)).ex
      refine (take_ok h e (List.mem_of_getElem? he) hr).mono ?_
      rintro r w' ⟨ao, cap, rfl, ho, ha⟩
      exact ⟨ao, cap, rfl, ho, r2.row.lt, r2.row.len, ha⟩
    · exact bad 133 (by unfold takeE; rw [find_at h.ok he]; simp [hr]) (by decide) (by unfold takeA; rw [find_at h.ok he]; simp [hr]) (take_pend h e (List.mem_of_getElem? he) (by simpa using hr))
  · exact bad 132 (by unfold takeE; rw [find_none hno]) (by decide) (by unfold takeA; rw [find_none hno]) (take_no h k hno hk)
theorem rtakeC (h : RR w G p v U S) (k : Int) : Calls Try.prog 29 #[.pointer (some ⟨p, 0, none⟩), .int .i64 k] w fun r w' => ∃ ao cap, r = .returned (.tuple #[.slice ao (takeA S k).length cap, .int .i64 (takeE S k)]) ∧ FRow w' G ao cap (takeA S k) ∧ ∃ v', RAct w w' G G p v v' U (takeT S k) := by
  have bad : ∀ er, takeE S k = er → er ≠ 0 → takeA S k = [] → (Calls Try.prog 29 #[.pointer (some ⟨p, 0, none⟩), .int .i64 k] w fun r w' => r = .returned (.tuple #[.slice none 0 0, .int .i64 er]) ∧ w' = w) → Calls Try.prog 29 #[.pointer (some ⟨p, 0, none⟩), .int .i64 k] w fun r w' => ∃ ao cap, r = .returned (.tuple #[.slice ao (takeA S k).length cap, .int .i64 (takeE S k)]) ∧ FRow w' G ao cap (takeA S k) ∧ ∃ v', RAct w w' G G p v v' U (takeT S k) := fun er h1 h2 h3 hc => by
    rw [takeT, h1, if_neg h2, h3]
    refine hc.mono ?_
    rintro r w' ⟨rfl, rfl⟩
    exact ⟨none, 0, rfl, FRow.nil _ _, v, h, KeptIn.refl _ _, fun g hg => .inl hg⟩
  rcases mem_or (k := k) (L := S.L) with ⟨i, e, he, rfl⟩ | hno
  · by_cases hr : e.rd = true
    · have e1 : takeE S e.id = 0 := by unfold takeE; rw [find_at h.ok he]; simp [hr]
      have e2 : takeA S e.id = e.an := by unfold takeA; rw [find_at h.ok he]; simp [hr]
      rw [takeT, e1, if_pos rfl, e2]
      refine (rtake_ok h i e he hr).mono ?_
      rintro r w' ⟨ao, cap, rfl, hf, v', ha⟩
      exact ⟨ao, cap, rfl, hf.keep ha.kept h.lt (fun g hg e => e.elim (fun e => h.np (e ▸ hg)) (fun e => h.nv g e hg)), v', ha⟩
    · exact bad 133 (by unfold takeE; rw [find_at h.ok he]; simp [hr]) (by decide) (by unfold takeA; rw [find_at h.ok he]; simp [hr]) (rtake_pend h i e he (by simpa using hr))
  · exact bad 132 (by unfold takeE; rw [find_none hno]) (by decide) (by unfold takeA; rw [find_none hno]) (rtake_no h k hno)
end
end Go.Proofs.Ytoabigjajnikcaa
