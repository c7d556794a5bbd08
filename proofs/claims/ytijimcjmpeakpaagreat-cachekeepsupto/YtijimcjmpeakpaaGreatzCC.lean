import Derived.Test.YtijimcjmpeakpaaGreatzCB
namespace Go.Proofs.YtijimcjmpeakpaaGreat.C
open Go.RowKit Go.Maps Go.Proofs.YtijimcjmpeakpaaGreat
attribute [local go_sem] Oper.semAt_some
set_option linter.unusedVariables false
set_option linter.unusedSimpArgs false
set_option maxRecDepth 100000

theorem zeroLp (w : World) : (zeroValue TLp).run Tryz.prog w = .ok (.pointer none) w := by kernel_rfl
/-- the line of a sector -/
def lineAt : List Ln → Int → Option Ln
  | [], _ => none
  | l :: L, k => if (l.sec : Int) = k then some l else lineAt L k
def linePtr : Option Ln → Value
  | none => .pointer none
  | some l => .pointer (some ⟨l.blk, 0, none⟩)
theorem lineAt_mem {L : List Ln} {k : Int} {l : Ln} (h : lineAt L k = some l) : l ∈ L ∧ (l.sec : Int) = k := by
  induction L with
  | nil => simp [lineAt] at h
  | cons x L ih =>
    unfold lineAt at h
    split at h
    · rename_i e; simp at h; subst h; exact ⟨by simp, e⟩
    · exact ⟨List.mem_cons_of_mem _ (ih h).1, (ih h).2⟩
theorem lineAt_none {L : List Ln} {k : Int} (h : lineAt L k = none) : ∀ l ∈ L, (l.sec : Int) ≠ k := by
  induction L with
  | nil => intro l hl; cases hl
  | cons x L ih =>
    unfold lineAt at h
    split at h
    · simp at h
    · rename_i e
      intro l hl
      rcases List.mem_cons.1 hl with rfl | hl
      · exact e
      · exact ih h l hl
theorem look_line (L : List Ln) (k : Int) : I.look (L.map Ln.ent) k = linePtr (lineAt L k) := by
  induction L with
  | nil => rfl
  | cons x L ih =>
    simp only [List.map_cons, I.look, lineAt]
    by_cases e : (x.sec : Int) = k
    · rw [if_pos (show x.ent.key = k from e), if_pos e]; rfl
    · rw [if_neg (show ¬ x.ent.key = k from e), if_neg e]; exact ih
/-- the line in the midst of the others -/
theorem lineAt_split {L : List Ln} {k : Int} {l : Ln} (h : lineAt L k = some l) : ∃ L1 L2, L = L1 ++ l :: L2 ∧ (l.sec : Int) = k ∧ ∀ x ∈ L1, (x.sec : Int) ≠ k := by
  induction L with
  | nil => simp [lineAt] at h
  | cons x L ih =>
    unfold lineAt at h
    split at h
    · rename_i e; simp at h; subst h; exact ⟨[], L, rfl, e, fun x hx => by cases hx⟩
    · rename_i e
      obtain ⟨L1, L2, rfl, h1, h2⟩ := ih h
      exact ⟨x :: L1, L2, rfl, h1, fun y hy => by rcases List.mem_cons.1 hy with rfl | hy; exact e; exact h2 y hy⟩
section
variable {w w' : World} {P : Loc} {S S' : K.Dk} {C C' : Ch}
theorem RC.sd (h : RC w P S C) : (C.L.map (fun l => (l.sec : Int))).Nodup := by rw [← h.eq]; exact h.ro.kd
theorem RC.sdE (h : RC w P S C) : ((C.L.map Ln.ent).map (·.key)).Nodup := by rw [List.map_map]; exact h.sd
theorem RC.wf (h : RC w P S C) {l : Ln} (hl : l ∈ C.L) : I.wfK (l.sec : Int) := by
  have h1 := (h.ok l hl).1
  have h2 := h.rk.n1
  exact K.wfI l.sec (by omega)
theorem RC.look (h : RC w P S C) {k : Int} (hk : I.wfK k) : (Instr.lookup TLm (.map (some P.bl)) (.int .i64 k) false).run Tryz.prog w = .ok (linePtr (lineAt C.L k)) w := by
  rw [← look_line]
  obtain ⟨D, hm, ho⟩ := h.lm
  obtain ⟨v, ps, hr, hv⟩ := hm.lookup I.keyed Tryz.underlying32 (zeroLp w) (zd := .nil) (zp := []) rfl (I.keyAt hk)
  rw [hr]
  congr 1
  by_cases hin : ∃ e ∈ C.L.map Ln.ent, e.key = k
  · obtain ⟨e, he, rfl⟩ := hin
    rw [ho.at_ e he] at hv
    rw [I.look_mem he h.sdE]
    exact I.ptrE_some hv
  · have hno : ∀ e ∈ C.L.map Ln.ent, e.key ≠ k := fun e he hk => hin ⟨e, he, hk⟩
    rw [atKey_of_not_has (ho.no k hno)] at hv
    rw [I.look_no hno]
    exact I.ptrE_nil hv
theorem RC.mapLen (h : RC w P S C) (ty : TypeId) : (Builtin.len_ #[TLm] ty #[.map (some P.bl)]).run Tryz.prog w = .ok (.int .i64 C.L.length) w := by
  obtain ⟨D, hm, ho⟩ := h.lm
  rw [hm.len Tryz.underlying32 ty, ho.size, List.length_map]
theorem neq_dp (w : World) (a : Addr) : (binOp .neq 30 (.pointer (some a)) (.pointer none)).run Tryz.prog w = .ok (.bool true) w := by rfl
theorem eql_lp_none (w : World) : (binOp .eql TLp (.pointer none) (.pointer none)).run Tryz.prog w = .ok (.bool true) w := by rfl
theorem eql_lp_some (w : World) (a : Addr) : (binOp .eql TLp (.pointer (some a)) (.pointer none)).run Tryz.prog w = .ok (.bool false) w := by rfl
theorem neq_lp_none (w : World) : (binOp .neq TLp (.pointer none) (.pointer none)).run Tryz.prog w = .ok (.bool false) w := by rfl
theorem neq_lp_some (w : World) (a : Addr) : (binOp .neq TLp (.pointer (some a)) (.pointer none)).run Tryz.prog w = .ok (.bool true) w := by rfl
theorem usable_c (h : RC w P S C) : Calls Tryz.prog 41 #[.pointer (some ⟨P.bc, 0, none⟩)] w fun r w' => r = .returned (.bool true) ∧ w' = w := by
  have c0 : w.cell? ⟨P.bc, 0, none⟩ = some (.pointer (some ⟨P.bd, 0, none⟩)) := h.c 0
  clear h
  go_enter Tryz.func41, Tryz.ntmps41
  go_wp2
  go_ret
  exact ⟨rfl, rfl⟩
/-- nothing but the disk's lock is touched -/
theorem RC.dsame (h : RC w P S C) (ha : K.DAct w w' 0 P.bd P.ms P.ml P.ms P.ml P.qv P.fv P.qv P.fv S) : CAct w w' P P C S C := h.disk rfl ha
theorem has_c (h : RC w P S C) (s : Int) : Calls Tryz.prog 54 #[.pointer (some ⟨P.bc, 0, none⟩), .int .i64 s] w fun r w' => r = .returned (.bool (K.inD S.n s)) ∧ CAct w w' P P C S C := by
  have c0 : w.cell? ⟨P.bc, 0, none⟩ = some (.pointer (some ⟨P.bd, 0, none⟩)) := h.c 0
  have hs := K.sectors_any h.rk
  have H : Hid (RC w P S C) := h
  clear h
  by_cases h0 : 0 ≤ s
  · have h0' : decide (s ≥ 0) = true := decide_eq_true h0
    go_enter Tryz.func54, Tryz.ntmps54
    go_wp2_with (go_at_call 36; refine hs.mono ?_; rintro e w9 ⟨rfl, ha⟩)
    go_ret
    refine ⟨?_, H.out.dsame ha⟩
    simp [K.inD, h0]
  · have h0' : decide (s ≥ 0) = false := decide_eq_false h0
    go_enter Tryz.func54, Tryz.ntmps54
    go_wp2_with (go_at_call 36; refine hs.mono ?_; rintro e w9 ⟨rfl, ha⟩)
    go_ret
    refine ⟨?_, CAct.refl H.out⟩
    have : K.inD S.n s = false := by unfold K.inD; simp; omega
    rw [this]; rfl
theorem refusal_c (h : RC w P S C) (s : Int) : Calls Tryz.prog 43 #[.pointer (some ⟨P.bc, 0, none⟩), .int .i64 s] w fun r w' => r = .returned (.int .i64 (if K.inD S.n s = true then 0 else 31)) ∧ CAct w w' P P C S C := by
  have hu := usable_c h
  have hh := has_c h s
  clear h
  generalize K.inD S.n s = b at *
  go_enter Tryz.func43, Tryz.ntmps43
  cases b
  · go_wp2_with (first | (go_at_call 41; refine hu.mono ?_; rintro e w9 ⟨rfl, hw9⟩; rw [hw9]; clear hw9) | (go_at_call 54; refine hh.mono ?_; rintro e w8 ⟨rfl, ha⟩))
    go_ret
    exact ⟨rfl, ha⟩
  · go_wp2_with (first | (go_at_call 41; refine hu.mono ?_; rintro e w9 ⟨rfl, hw9⟩; rw [hw9]; clear hw9) | (go_at_call 54; refine hh.mono ?_; rintro e w8 ⟨rfl, ha⟩))
    go_ret
    exact ⟨rfl, ha⟩
end
/-- is a sector a note's? -/
def isN (notes : List (Int × Int)) (s : Int) : Bool := notes.any fun p => decide (p.1 ≤ s) && decide (s - p.1 < p.2)
theorem spcells_get (l : List (Int × Int)) (k : Nat) (p : Int × Int) (h : l[k]? = some p) : (spcells l)[k * 2]? = some (.int .i64 p.1) ∧ (spcells l)[k * 2 + 1]? = some (.int .i64 p.2) := by
  induction l generalizing k with
  | nil => simp at h
  | cons a t ih =>
    cases k with
    | zero => simp at h; subst h; simp [spcells, spcell]
    | succ k =>
      have := ih k (by simpa using h)
      simp only [spcells, spcell, List.flatMap_cons] at this ⊢
      constructor
      · rw [show (k + 1) * 2 = k * 2 + 2 by omega]; simpa using this.1
      · rw [show (k + 1) * 2 + 1 = k * 2 + 1 + 2 by omega]; simpa using this.2
abbrev I64 (z : Int) : Prop := -9223372036854775808 ≤ z ∧ z ≤ 9223372036854775807
/-- isNote's question of one span -/
theorem note1 {W : World} {b : Nat} {s : Int} (hc : W.cell? ⟨b, 0, none⟩ = some (.int .i64 s)) (p : Int × Int) (h0 : 0 ≤ s ∧ s ≤ 65536) (hp : 0 ≤ p.1 ∧ p.1 ≤ 65536) :
    Calls Tryz.prog 108 #[.agg #[.int .i64 p.1, .int .i64 p.2], .pointer (some ⟨b, 0, none⟩)] W fun r w' => r = .returned (.bool (decide (p.1 ≤ s) && decide (s - p.1 < p.2))) ∧ Below W.heap.size W w' := by
  have hc' : (W.alloc (.cells #[.int .i64 p.1, .int .i64 p.2] TSp)).cell? ⟨b, 0, none⟩ = some (.int .i64 s) := cell_later ((Below.refl _ W).alloc (Nat.le_refl _) _) hc
  have hw : IntKind.i64.wrap (s - p.1) = s - p.1 := by rw [IntKind.wrap_i64]; omega
  clear hc
  by_cases h1 : p.1 ≤ s
  · have h1' : decide (s ≥ p.1) = true := decide_eq_true h1
    go_enter Tryz.func108, Tryz.ntmps108
    go_wp2
    go_ret
    exact ⟨by simp [h1], (Below.refl _ W).alloc (Nat.le_refl _) _⟩
  · have h1' : decide (s ≥ p.1) = false := decide_eq_false h1
    go_enter Tryz.func108, Tryz.ntmps108
    go_wp2
    go_ret
    exact ⟨by simp [h1], (Below.refl _ W).alloc (Nat.le_refl _) _⟩
end Go.Proofs.YtijimcjmpeakpaaGreat.C
