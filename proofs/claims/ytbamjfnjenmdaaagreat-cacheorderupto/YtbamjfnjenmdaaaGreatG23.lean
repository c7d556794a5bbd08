import Derived.Test.YtbamjfnjenmdaaaGreatzCB
namespace Go.Proofs.YtbamjfnjenmdaaaGreat.C
open Go.RowKit Go.Maps Go.Proofs.YtbamjfnjenmdaaaGreat
attribute [local go_sem] Oper.semAt_some
set_option linter.unusedVariables false
set_option linter.unusedSimpArgs false
set_option maxRecDepth 100000

theorem zeroLp (w : World) : (zeroValue TLp).run Tryz.prog w = .ok (.pointer none) w := by kernel_rfl
/-- the line of a sector -/
def lineAt : List Ln → Int → Option Ln
  | [], _ => none
  | l :: L, k => if (l.sec : Int) = k then some l else lineAt L k
def linePtr : Option Ln → Value
  | none => .pointer none
  | some l => .pointer (some ⟨l.blk, 0, none⟩)
theorem lineAt_mem {L : List Ln} {k : Int} {l : Ln} (h : lineAt L k = some l) : l ∈ L ∧ (l.sec : Int) = k := by
  induction L with
  | nil => simp [lineAt] at h
  | cons x L ih =>
    unfold lineAt at h
    split at h
    · rename_i e; simp at h; subst h; exact ⟨by simp, e⟩
    · exact ⟨List.mem_cons_of_mem _ (ih h).1, (ih h).2⟩
theorem lineAt_none {L : List Ln} {k : Int} (h : lineAt L k = none) : ∀ l ∈ L, (l.sec : Int) ≠ k := by
  induction L with
  | nil => intro l hl; cases hl
  | cons x L ih =>
    unfold lineAt at h
    split at h
    · simp at h
    · rename_i e
      intro l hl
      rcases List.mem_cons.1 hl with rfl | hl
      · exact e
      · exact ih h l hl
theorem look_line (L : List Ln) (k : Int) : I.look (L.map Ln.ent) k = linePtr (lineAt L k) := by
  induction L with
  | nil => rfl
  | cons x L ih =>
    simp only [List.map_cons, I.look, lineAt]
    by_cases e : (x.sec : Int) = k
    · rw [if_pos (show x.ent.key = k from e), if_pos e]; rfl
    · rw [if_neg (show ¬ x.ent.key = k from e), if_neg e]; exact ih
/-- the line in the midst of the others -/
theorem lineAt_split {L : List Ln} {k : Int} {l : Ln} (h : lineAt L k = some l) : ∃ L1 L2, L = L1 ++ l :: L2 ∧ (l.sec : Int) = k ∧ ∀ x ∈ L1, (x.sec : Int) ≠ k := by
  induction L with
  | nil => simp [lineAt] at h
  | cons x L ih =>
    unfold lineAt at h
    split at h
    · rename_i e; simp at h; subst h; exact ⟨[], L, rfl, e, fun x hx => by cases hx⟩
    · rename_i e
      obtain ⟨L1, L2, rfl, h1, h2⟩ := ih h
      exact ⟨x :: L1, L2, rfl, h1, fun y hy => by rcases List.mem_cons.1 hy with rfl | hy; exact e; exact h2 y hy⟩
section
variable {w w' : World} {P : Loc} {S S' : K.Dk} {C C' : Ch}
theorem RC.sd (h : RC w P S C) : (C.L.map (fun l => (l.sec : Int))).Nodup := by rw [← h.eq]; exact h.ro.kd
theorem RC.sdE (h : RC w P S C) : ((C.L.map Ln.ent).map (·.key)).Nodup := by rw [List.map_map]; exact h.sd
theorem RC.wf (h : RC w P S C) {l : Ln} (hl : l ∈ C.L) : I.wfK (l.sec : Int) := by
  have h1 := (h.ok l hl).1
  have h2 := h.rk.n1
  exact K.wfI l.sec (by omega)
theorem RC.look (h : RC w P S C) {k : Int} (hk : I.wfK k) : (Instr.lookup TLm (.map (some P.bl)) (.int .i64 k) false).run Tryz.prog w = .ok (linePtr (lineAt C.L k)) w := by
  rw [← look_line]
  obtain ⟨D, hm, ho⟩ := h.lm
  obtain ⟨v, ps, hr, hv⟩ := hm.lookup I.keyed Tryz.underlying86 (zeroLp w) (zd := .nil) (zp := []) rfl (I.keyAt hk)
  rw [hr]
  congr 1
  by_cases hin : ∃ e ∈ C.L.map Ln.ent, e.key = k
  · obtain ⟨e, he, rfl⟩ := hin
    rw [ho.at_ e he] at hv
    rw [I.look_mem he h.sdE]
    exact I.ptrE_some hv
  · have hno : ∀ e ∈ C.L.map Ln.ent, e.key ≠ k := fun e he hk => hin ⟨e, he, hk⟩
    rw [atKey_of_not_has (ho.no k hno)] at hv
    rw [I.look_no hno]
    exact I.ptrE_nil hv
theorem RC.mapLen (h : RC w P S C) (ty : TypeId) : (Builtin.len_ #[TLm] ty #[.map (some P.bl)]).run Tryz.prog w = .ok (.int .i64 C.L.length) w := by
  obtain ⟨D, hm, ho⟩ := h.lm
  rw [hm.len Tryz.underlying86 ty, ho.size, List.length_map]
theorem neq_dp (w : World) (a : Addr) : (binOp .neq 28 (.pointer (some a)) (.pointer none)).run Tryz.prog w = .ok (.bool true) w := by rfl
theorem eql_lp_none (w : World) : (binOp .eql TLp (.pointer none) (.pointer none)).run Tryz.prog w = .ok (.bool true) w := by rfl
theorem eql_lp_some (w : World) (a : Addr) : (binOp .eql TLp (.pointer (some a)) (.pointer none)).run Tryz.prog w = .ok (.bool false) w := by rfl
theorem neq_lp_none (w : World) : (binOp .neq TLp (.pointer none) (.pointer none)).run Tryz.prog w = .ok (.bool false) w := by rfl
theorem neq_lp_some (w : World) (a : Addr) : (binOp .neq TLp (.pointer (some a)) (.pointer none)).run Tryz.prog w = .ok (.bool true) w := by rfl
theorem usable_c (h : RC w P S C) : Calls Tryz.prog 33 #[.pointer (some ⟨P.bc, 0, none⟩)] w fun r w' => r = .returned (.bool true) ∧ w' = w := by
  have c0 : w.cell? ⟨P.bc, 0, none⟩ = some (.pointer (some ⟨P.bd, 0, none⟩)) := h.c 0
  clear h
  go_enter Tryz.func33, Tryz.ntmps33
  go_wp2
  go_ret
  exact ⟨rfl, rfl⟩
/-- nothing but the disk's lock is touched -/
theorem RC.dsame (h : RC w P S C) (ha : K.DAct w w' 0 P.bd P.ms P.ml P.ms P.ml P.qv P.fv P.qv P.fv S) : CAct w w' P P C S C := h.disk rfl ha
theorem has_c (h : RC w P S C) (s : Int) : Calls Tryz.prog 38 #[.pointer (some ⟨P.bc, 0, none⟩), .int .i64 s] w fun r w' => r = .returned (.bool (K.inD S.n s)) ∧ CAct w w' P P C S C := by
  have c0 : w.cell? ⟨P.bc, 0, none⟩ = some (.pointer (some ⟨P.bd, 0, none⟩)) := h.c 0
  have hs := K.sectors_any h.rk
  have H : Hid (RC w P S C) := h
  clear h
  by_cases h0 : 0 ≤ s
  · have h0' : decide (s ≥ 0) = true := decide_eq_true h0
    go_enter Tryz.func38, Tryz.ntmps38
    go_wp2_with (go_at_call 48; refine hs.mono ?_; rintro e w9 ⟨rfl, ha⟩)
    go_ret
    refine ⟨?_, H.out.dsame ha⟩
    simp [K.inD, h0]
  · have h0' : decide (s ≥ 0) = false := decide_eq_false h0
    go_enter Tryz.func38, Tryz.ntmps38
    go_wp2_with (go_at_call 48; refine hs.mono ?_; rintro e w9 ⟨rfl, ha⟩)
    go_ret
    refine ⟨?_, CAct.refl H.out⟩
    have : K.inD S.n s = false := by unfold K.inD; simp; omega
    rw [this]; rfl
theorem refusal_c (h : RC w P S C) (s : Int) : Calls Tryz.prog 27 #[.pointer (some ⟨P.bc, 0, none⟩), .int .i64 s] w fun r w' => r = .returned (.int .i64 (if K.inD S.n s = true then 0 else 31)) ∧ CAct w w' P P C S C := by
  have hu := usable_c h
  have hh := has_c h s
  clear h
  generalize K.inD S.n s = b at *
  go_enter Tryz.func27, Tryz.ntmps27
  cases b
  · go_wp2_with (first | (go_at_call 33; refine hu.mono ?_; rintro e w9 ⟨rfl, hw9⟩; rw [hw9]; clear hw9) | (go_at_call 38; refine hh.mono ?_; rintro e w8 ⟨rfl, ha⟩))
    go_ret
    exact ⟨rfl, ha⟩
  · go_wp2_with (first | (go_at_call 33; refine hu.mono ?_; rintro e w9 ⟨rfl, hw9⟩; rw [hw9]; clear hw9) | (go_at_call 38; refine hh.mono ?_; rintro e w8 ⟨rfl, ha⟩))
    go_ret
    exact ⟨rfl, ha⟩
end
/-- is a sector a note's? -/
def isN (notes : List (Int × Int)) (s : Int) : Bool := notes.any fun p => decide (p.1 ≤ s) && decide (s - p.1 < p.2)
theorem spcells_get (l : List (Int × Int)) (k : Nat) (p : Int × Int) (h : l[k]? = some p) : (spcells l)[k * 2]? = some (.int .i64 p.1) ∧ (spcells l)[k * 2 + 1]? = some (.int .i64 p.2) := by
  induction l generalizing k with
  | nil => simp at h
  | cons a t ih =>
    cases k with
    | zero => simp at h; subst h; simp [spcells, spcell]
    | succ k =>
      have := ih k (by simpa using h)
      simp only [spcells, spcell, List.flatMap_cons] at this ⊢
      constructor
      · rw [show (k + 1) * 2 = k * 2 + 2 by omega]; simpa using this.1
      · rw [show (k + 1) * 2 + 1 = k * 2 + 1 + 2 by omega]; simpa using this.2
abbrev I64 (z : Int) : Prop := -9223372036854775808 ≤ z ∧ z ≤ 9223372036854775807
/-- isNote's question of one span -/
theorem note1 {W : World} {b : Nat} {s : Int} (hc : W.cell? ⟨b, 0, none⟩ = some (.int .i64 s)) (p : Int × Int) (h0 : 0 ≤ s ∧ s ≤ 65536) (hp : 0 ≤ p.1 ∧ p.1 ≤ 65536) :
    Calls Tryz.prog 76 #[.agg #[.int .i64 p.1, .int .i64 p.2], .pointer (some ⟨b, 0, none⟩)] W fun r w' => r = .returned (.bool (decide (p.1 ≤ s) && decide (s - p.1 < p.2))) ∧ Below W.heap.size W w' := by
  have hc' : (W.alloc (.cells #[.int .i64 p.1, .int .i64 p.2] TSp)).cell? ⟨b, 0, none⟩ = some (.int .i64 s) := cell_later ((Below.refl _ W).alloc (Nat.le_refl _) _) hc
  have hw : IntKind.i64.wrap (s - p.1) = s - p.1 := by rw [IntKind.wrap_i64]; omega
  clear hc
  by_cases h1 : p.1 ≤ s
  · have h1' : decide (s ≥ p.1) = true := decide_eq_true h1
    go_enter Tryz.func76, Tryz.ntmps76
    go_wp2
    go_ret
    exact ⟨by simp [h1], (Below.refl _ W).alloc (Nat.le_refl _) _⟩
  · have h1' : decide (s ≥ p.1) = false := decide_eq_false h1
    go_enter Tryz.func76, Tryz.ntmps76
    go_wp2
    go_ret
    exact ⟨by simp [h1], (Below.refl _ W).alloc (Nat.le_refl _) _⟩
end Go.Proofs.YtbamjfnjenmdaaaGreat.C

namespace Go.Proofs.YtbamjfnjenmdaaaGreat.C
open Go.RowKit Go.Maps Go.Proofs.YtbamjfnjenmdaaaGreat
attribute [local go_sem] Oper.semAt_some
set_option linter.unusedVariables false
set_option linter.unusedSimpArgs false
set_option maxRecDepth 100000

theorem sp_form {w : World} {B n : Nat} {v : Value} {xs : List Value} (h : w.ownsRow B TSp 2 v n xs) : ∃ ao cap, v = .slice ao n cap ∧ (0 < n → ∃ g, ao = some ⟨g, 0, none⟩ ∧ g < w.heap.size) := by
  rcases h.2 with ⟨rfl, h0⟩ | ⟨g, cap, cur, rfl, _, hg, _⟩
  · exact ⟨none, 0, by rw [h0], fun h => by omega⟩
  · exact ⟨_, cap, rfl, fun _ => ⟨g, rfl, (Array.getElem?_eq_some_iff.1 hg).1⟩⟩
theorem sp_cells {w : World} {B n g cap : Nat} {l : List (Int × Int)} (h : w.ownsRow B TSp 2 (.slice (some ⟨g, 0, none⟩) n cap) n (spcells l)) {k : Nat} {p : Int × Int} (hk : l[k]? = some p) : w.cell? ⟨g, k * 2, none⟩ = some (.int .i64 p.1) ∧ w.cell? ⟨g, k * 2 + 1, none⟩ = some (.int .i64 p.2) := by
  obtain ⟨h1, h2⟩ := spcells_get l k p hk
  have c1 := h.cells (g := g) rfl _ _ h1
  have c2 := h.cells (g := g) rfl _ _ h2
  rw [WideShapes.add_plain, Nat.zero_add] at c1 c2
  exact ⟨c1, c2⟩
theorem NR.form {w : World} {nv : Value} {nb : Option Nat} {notes : List (Int × Int)} (h : NR w nv nb notes) : ∃ ao cap, nv = .slice ao notes.length cap ∧ ∀ (k : Nat) (p : Int × Int), notes[k]? = some p → ∃ g, ao = some ⟨g, 0, none⟩ ∧ w.cell? ⟨g, k * 2, none⟩ = some (.int .i64 p.1) ∧ w.cell? ⟨g, k * 2 + 1, none⟩ = some (.int .i64 p.2) := by
  rcases h with ⟨rfl, _, ao, cap, rfl⟩ | ⟨_, h⟩
  · exact ⟨ao, cap, rfl, fun k p hk => by simp at hk⟩
  · obtain ⟨ao, cap, rfl, hao⟩ := sp_form h
    refine ⟨ao, cap, rfl, fun k p hk => ?_⟩
    obtain ⟨g, rfl, _⟩ := hao (by have := (List.getElem?_eq_some_iff.1 hk).1; omega)
    exact ⟨g, rfl, sp_cells h hk⟩
set_option maxHeartbeats 4000000 in
theorem index_c {w : World} {nv : Value} {b : Nat} {nb : Option Nat} {notes : List (Int × Int)} {s : Int} (hr : NR w nv nb notes) (hc : w.cell? ⟨b, 0, none⟩ = some (.int .i64 s)) (hl : notes.length ≤ 64) (h0 : 0 ≤ s ∧ s ≤ 65536) (hp : ∀ p ∈ notes, 0 ≤ p.1 ∧ p.1 ≤ 65536) :
    Calls Tryz.prog 109 #[nv, .func (.func 76) #[] #[.pointer (some ⟨b, 0, none⟩)]] w fun r w' => ∃ z : Int, r = .returned (.int .i64 z) ∧ decide (z ≥ 0) = isN notes s ∧ Below w.heap.size w w' := by
  obtain ⟨ao, cap, rfl, hao⟩ := hr.form
  obtain ⟨n, hn⟩ : ∃ n, n = notes.length := ⟨_, rfl⟩
  rw [← hn] at hr hl ⊢
  have HN : Hid (n = notes.length) := hn
  have HR : Hid (∀ (k : Nat) (p : Int × Int), notes[k]? = some p → ∃ g, ao = some ⟨g, 0, none⟩ ∧ w.cell? ⟨g, k * 2, none⟩ = some (.int .i64 p.1) ∧ w.cell? ⟨g, k * 2 + 1, none⟩ = some (.int .i64 p.2)) := hao
  have HC : Hid (w.cell? ⟨b, 0, none⟩ = some (.int .i64 s)) := hc
  have HP : Hid (∀ p ∈ notes, 0 ≤ p.1 ∧ p.1 ≤ 65536) := hp
  clear hr hc hp hn hao
  go_enter Tryz.func109, Tryz.ntmps109
  go_wp2
  go_loopw [8] (fun i wr => ∃ k : Nat, k ≤ n ∧ i = .int .i64 k ∧ Hid (Below w.heap.size w wr ∧ isN (notes.take k) s = false)) (fun i _ => n - (intOf i).toNat)
  case atStart => exact ⟨0, Nat.zero_le _, rfl, Below.refl _ _, by simp [isN]⟩
  case round =>
    obtain ⟨k, hk, rfl, HB⟩ := hrel
    by_cases hlt : k < n
    · have hkz : (k : Int) < (n : Int) := by omega
      obtain ⟨p, hq⟩ : ∃ p, notes[k]? = some p := ⟨_, List.getElem?_eq_getElem (by have := HN.out; omega)⟩
      obtain ⟨g, rfl, d0, d1⟩ := HR.out k p hq
      have e0 := cell_later HB.out.1 d0
      have e1 := cell_later HB.out.1 d1
      have HQ : Hid (notes[k]? = some p) := hq
      have N1 : Hid (Calls Tryz.prog 76 #[.agg #[.int .i64 p.1, .int .i64 p.2], .pointer (some ⟨b, 0, none⟩)] wr fun r w' => r = .returned (.bool (decide (p.1 ≤ s) && decide (s - p.1 < p.2))) ∧ Below wr.heap.size wr w') := note1 (cell_later HB.out.1 HC.out) p h0 (HP.out p (List.mem_of_getElem? hq))
      clear d0 d1 hq
      obtain ⟨v, hv⟩ : ∃ v, v = (decide (p.1 ≤ s) && decide (s - p.1 < p.2)) := ⟨_, rfl⟩
      rw [← hv] at N1
      have HV : Hid (v = (decide (p.1 ≤ s) && decide (s - p.1 < p.2))) := hv
      clear hv
      cases v
      · go_wp2_with (go_at_call 76; refine N1.out.mono ?_; rintro e w9 ⟨rfl, hb9⟩)
        go_roundw
        case rel =>
          refine ⟨k + 1, by omega, by go_num, HB.out.1.trans (hb9.mono HB.out.1.size), ?_⟩
          rw [List.take_add_one, HQ.out]
          have h1 := HB.out.2
          unfold isN at h1 ⊢
          rw [List.any_append, h1]
          simpa using HV.out.symm
        case measure => simp [intOf]; omega
      · go_wp2_with (go_at_call 76; refine N1.out.mono ?_; rintro e w9 ⟨rfl, hb9⟩)
        go_ret
        refine ⟨k, rfl, ?_, HB.out.1.trans (hb9.mono HB.out.1.size)⟩
        rw [decide_eq_true (by omega)]
        symm
        unfold isN
        rw [List.any_eq_true]
        exact ⟨p, List.mem_of_getElem? HQ.out, HV.out.symm⟩
    · have hkz : ¬ (k : Int) < (n : Int) := by omega
      go_wp2
      go_ret
      refine ⟨-1, rfl, ?_, HB.out.1⟩
      have h1 := HB.out.2
      rw [List.take_of_length_le (by have := HN.out; omega)] at h1
      rw [h1]; rfl
section
variable {w w' : World} {P : Loc} {S S' : K.Dk} {C C' : Ch}
theorem isNote_c (h : RC w P S C) {s : Int} (h0 : 0 ≤ s ∧ s ≤ 65536) : Calls Tryz.prog 55 #[.pointer (some ⟨P.bc, 0, none⟩), .int .i64 s] w fun r w' => r = .returned (.bool (isN C.notes s)) ∧ Below w.heap.size w w' := by
  obtain ⟨W0, hW0⟩ : ∃ W0, W0 = w.alloc (.cells #[.int .i64 s] TIn) := ⟨_, rfl⟩
  have hB0 : Below w.heap.size w W0 := by rw [hW0]; exact (Below.refl _ w).alloc (Nat.le_refl _) _
  have h' := h.later hB0
  have c2 : W0.cell? ⟨P.bc, 2, none⟩ = some P.nv := h'.c 2
  have cb : W0.cell? ⟨w.heap.size, 0, none⟩ = some (.int .i64 s) := by rw [hW0]; simp
  have hmf : ∀ (fn : Fn) (first cap : Array Value) (w : World), (Instr.makeFunc fn first cap).run Tryz.prog w = .ok (.func fn first cap) w := fun _ _ _ _ => rfl
  have hn1 := h.rk.n1
  have HI : Hid (Calls Tryz.prog 109 #[P.nv, .func (.func 76) #[] #[.pointer (some ⟨w.heap.size, 0, none⟩)]] W0 fun r w' => ∃ z : Int, r = .returned (.int .i64 z) ∧ decide (z ≥ 0) = isN C.notes s ∧ Below w.heap.size w w') := by
    refine (index_c h'.nr cb h.nl h0 (fun p hp => by have := h.nok p hp; omega)).mono ?_
    rintro r w' ⟨z, rfl, hz, hb⟩
    exact ⟨z, rfl, hz, hB0.trans (hb.mono hB0.size)⟩
  have HC : Hid (Calls Tryz.prog 75 #[P.nv, .func (.func 76) #[] #[.pointer (some ⟨w.heap.size, 0, none⟩)]] W0 fun r w' => r = .returned (.bool (isN C.notes s)) ∧ Below w.heap.size w w') := by
    clear h h' hB0 c2 cb hW0
    go_enter Tryz.func75, Tryz.ntmps75
    go_wp2_with (go_at_call 109; refine HI.out.mono ?_; rintro e w9 ⟨z, rfl, hz, hb⟩)
    go_ret
    exact ⟨by rw [← hz]; rfl, hb⟩
  subst hW0
  clear h h' hB0 cb HI
  go_enter Tryz.func55, Tryz.ntmps55
  go_wp2_with (go_at_call 75; refine HC.out.mono ?_; rintro e w9 ⟨rfl, hb⟩)
  go_ret
  exact ⟨rfl, hb⟩
end
end Go.Proofs.YtbamjfnjenmdaaaGreat.C

namespace Go.Proofs.YtbamjfnjenmdaaaGreat.C
open Go.RowKit Go.Maps Go.Proofs.YtbamjfnjenmdaaaGreat
attribute [local go_sem] Oper.semAt_some
set_option linter.unusedVariables false
set_option linter.unusedSimpArgs false
set_option maxRecDepth 100000

/-- the lines without a sector's -/
def dropL (L : List Ln) (s : Int) : List Ln := L.filter fun x => decide ((x.sec : Int) ≠ s)
theorem dropL_split {L1 L2 : List Ln} {l : Ln} (hd : ((L1 ++ l :: L2).map (fun l => (l.sec : Int))).Nodup) : dropL (L1 ++ l :: L2) l.sec = L1 ++ L2 := by
  simp only [List.map_append, List.map_cons, List.nodup_append, List.nodup_cons, List.mem_map, List.mem_cons] at hd
  unfold dropL
  rw [List.filter_append, List.filter_cons]
  have e1 : L1.filter (fun x => decide ((x.sec : Int) ≠ l.sec)) = L1 := List.filter_eq_self.2 fun x hx => by
    simpa using fun e => hd.2.2 x.sec ⟨x, hx, rfl⟩ l.sec (.inl rfl) (by omega)
  have e2 : L2.filter (fun x => decide ((x.sec : Int) ≠ l.sec)) = L2 := List.filter_eq_self.2 fun x hx => by
    simpa using fun e => hd.2.1.1 ⟨x, hx, by omega⟩
  rw [e1, e2]; simp
def missC (C : Ch) : Ch := { C with st := { C.st with misses := K.inc C.st.misses } }
def hitC (C : Ch) : Ch := { C with st := { C.st with hits := K.inc C.st.hits } }
def useC (C : Ch) (s : Int) : Ch := match lineAt C.L s with
  | none => missC C
  | some l => { hitC C with L := dropL C.L s ++ [l] }
section
variable {w w' : World} {P : Loc} {S S' : K.Dk} {C C' : Ch}
/-- the order's entries follow the lines -/
theorem RC.split (h : RC w P S C) {L1 L2 : List Ln} {l : Ln} (hL : C.L = L1 ++ l :: L2) : ∃ E1 e E2, P.E = E1 ++ e :: E2 ∧ e.key = (l.sec : Int) ∧ E1.map (·.key) = L1.map (fun l => (l.sec : Int)) ∧ E2.map (·.key) = L2.map (fun l => (l.sec : Int)) := by
  have he := h.eq
  rw [hL, List.map_append, List.map_cons] at he
  obtain ⟨E1, E3, e1, e2, e3⟩ := List.map_eq_append_iff.1 he
  obtain ⟨e, E2, rfl, e4, e5⟩ := List.map_eq_cons_iff.1 e3
  exact ⟨E1, e, E2, e1, e4, e2, e5⟩
theorem use_c (h : RC w P S C) {s : Int} (hs : I.wfK s) : Calls Tryz.prog 28 #[.pointer (some ⟨P.bc, 0, none⟩), .int .i64 s] w fun r w' => r = .returned (linePtr (lineAt C.L s)) ∧ ∃ P', CAct w w' P P' C S (useC C s) := by
  have c3 : w.cell? ⟨P.bc, 3, none⟩ = some (.map (some P.bl)) := h.c 3
  have hlk := h.look hs
  unfold useC
  cases hl : lineAt C.L s with
  | none =>
    rw [hl] at hlk
    have c6 : w.cell? ⟨P.bc, 6, none⟩ = some (.int .u64 C.st.misses) := h.c 6
    have f6 := h.fz 6
    have ha := h.stat 6 (.int .u64 (K.inc C.st.misses)) { C.st with misses := K.inc C.st.misses } rfl
    have HA : Hid (CAct w (w.setCell ⟨P.bc, 6, none⟩ (.int .u64 (K.inc C.st.misses))) P P C S (missC C)) := ha
    simp only [linePtr] at hlk ⊢
    have e1 := eql_lp_none
    clear h ha
    go_enter Tryz.func28, Tryz.ntmps28
    go_wp2
    go_ret
    exact ⟨rfl, P, HA.out⟩
  | some l =>
    rw [hl] at hlk
    obtain ⟨L1, L2, hL, hls, _⟩ := lineAt_split hl
    obtain ⟨E1, e, E2, hE, hek, h1, h2⟩ := h.split hL
    have c5 : w.cell? ⟨P.bc, 5, none⟩ = some (.int .u64 C.st.hits) := h.c 5
    have f5 := h.fz 5
    have ha := h.stat 5 (.int .u64 (K.inc C.st.hits)) { C.st with hits := K.inc C.st.hits } rfl
    have c4 : (w.setCell ⟨P.bc, 5, none⟩ (.int .u64 (IntKind.u64.wrap (C.st.hits + 1)))).cell? ⟨P.bc, 4, none⟩ = some (.pointer (some ⟨P.bo, 0, none⟩)) := ha.rc.c 4
    have hd := h.sd
    have hro := ha.rc.ro
    rw [hE] at hro
    have ht := I.touch_any hro
    rw [hek, hls] at ht
    have HT : Hid (Calls Tryz.prog 52 #[.pointer (some ⟨P.bo, 0, none⟩), .int .i64 s] (w.setCell ⟨P.bc, 5, none⟩ (.int .u64 (IntKind.u64.wrap (C.st.hits + 1)))) fun r w' => r = .returned (.bool true) ∧ ∃ P', CAct w w' P P' C S { hitC C with L := dropL C.L s ++ [l] }) := by
      refine ht.mono ?_
      rintro r w' ⟨rfl, hact⟩
      rw [← hE] at hact
      have hdr : dropL C.L s = L1 ++ L2 := by rw [hL, ← hls]; exact dropL_split (by rw [← hL]; exact hd)
      have ho := ha.rc.order hact (L' := L1 ++ L2 ++ [l]) (by show (L1 ++ L2 ++ [l]).Perm C.L; rw [hL, List.append_assoc]; exact List.Perm.append_left L1 (List.perm_append_singleton l L2)) (by simp [h1, h2, hek])
      rw [hdr]
      exact ⟨rfl, _, ha.trans ho⟩
    have e2 := eql_lp_some
    simp only [linePtr] at hlk ⊢
    clear h ha hro ht hl hd hE hL
    go_enter Tryz.func28, Tryz.ntmps28
    go_wp2_with (go_at_call 52; refine HT.out.mono ?_; rintro e w9 ⟨rfl, ha⟩)
    go_ret
    exact ⟨rfl, ha⟩
end
def Zl : Array Value := Array.replicate 512 (.int .u8 0) ++ #[.bool false, .bool false]
theorem infoLn : (Tryz.prog.info? TLn).map (fun i => (i.zero, i.size, i.bytes)) = some (some (.agg Zl), 514, 514) := by kernel_rfl
theorem undLn : Tryz.prog.underlying TLn = some (.struct (Tryz.prog.fieldsOf TLn)) := by kernel_rfl
theorem plLn : (Tryz.prog.fieldsOf TLn).toList.mapM (fun f => (Tryz.prog.info? f.type).map fun i => (f.offset, i.size)) = some [(0, 512), (512, 1), (513, 1)] := by kernel_rfl
/-- a new line -/
def newLn (s b : Nat) (n : Bool) : Ln := ⟨s, b, K.z512, false, n⟩
theorem Zl_size : Zl.size = 514 := by simp [Zl]
theorem built_line (s b : Nat) (n : Bool) : Tryz.prog.built TLn [(2, .bool n)] = some (lcells (newLn s b n)) := by
  obtain ⟨i0, hi, hz0, hz1, hz2⟩ := info_parts infoLn
  obtain ⟨r1, e1, s1, g1⟩ := K.fill_one (place := fun x => ([(0, 512), (512, 1), (513, 1)] : List (Nat × Nat)).toArray[x]?) (cells := Zl) (i := 2) (off := 513) (v := .bool n) (rest := []) (by rfl) (by rw [Zl_size]; show 513 + 1 ≤ 514; omega)
  have hr : r1 = lcells (newLn s b n) := by
    apply Array.ext_getElem?
    intro k
    rw [g1 k]
    have hc : (Value.bool n).cells = #[.bool n] := rfl
    rw [hc]
    by_cases hk : 513 ≤ k ∧ k < 513 + 1
    · obtain rfl : k = 513 := by omega
      rw [if_pos (by simp)]
      rfl
    · rw [if_neg (by simpa using hk)]
      by_cases h1 : k < 512
      · have e1 : Zl[k]? = some (.int .u8 0) := by
          unfold Zl
          rw [Array.getElem?_append_left (by rw [Array.size_replicate]; exact h1), Array.getElem?_replicate, if_pos h1]
        have e2 : (lcells (newLn s b n))[k]? = some (.int .u8 0) := by
          unfold lcells
          rw [List.getElem?_toArray, List.getElem?_append_left (by rw [List.length_map]; show k < (List.replicate 512 0).length; rw [List.length_replicate]; exact h1), List.getElem?_map]
          show Option.map bv ((List.replicate 512 0)[k]?) = _
          rw [List.getElem?_replicate, if_pos h1]
          rfl
        rw [e1, e2]
      · by_cases h2 : k = 512
        · subst h2; rfl
        · rw [Array.getElem?_eq_none (by rw [Zl_size]; omega), Array.getElem?_eq_none (by rw [show (lcells (newLn s b n)).size = 514 from rfl]; omega)]
  unfold Program.built
  rw [hi, undLn]
  simp only [hz0, plLn]
  change Instr.fill _ Zl _ = _
  rw [e1, hr]
  rfl
theorem line_cells (s b : Nat) (n : Bool) : Tryz.zeroCells84.setIfInBounds 513 (.bool n) = lcells (newLn s b n) := by cases n <;> rfl
theorem run_line (w : World) (s b : Nat) (n : Bool) : (Instr.build TLn #[(2, .bool n)]).run Tryz.prog w = .ok (.agg (lcells (newLn s b n))) w := run_build w TLn _ _ (built_line s b n)
end Go.Proofs.YtbamjfnjenmdaaaGreat.C
