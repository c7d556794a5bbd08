import Derived.Test.YtodinademhibjaaDoorRuP
namespace Go.Proofs.YtodinademhibjaaDoor
open Go.RowKit
set_option linter.unusedVariables false
set_option linter.unusedSimpArgs false
set_option maxRecDepth 100000

theorem nef {a b : Int} (h : a ≠ b) : (a != b) = true := by simpa using h
def Bk (w : World) (b : Nat) (cs : Array Value) (t : TypeId) : Prop := w.heap[b]? = some (.cells cs t (0, 0))
theorem Bk.lt {w : World} {b : Nat} {cs : Array Value} {t : TypeId} (h : Bk w b cs t) : b < w.heap.size := (Array.getElem?_eq_some_iff.1 h).1
theorem Bk.later {w w' : World} {b : Nat} {cs : Array Value} {t : TypeId} (h : Bk w b cs t) (hb : Below w.heap.size w w') : Bk w' b cs t := (hb.block _ h.lt).trans h
theorem Bk.new (w : World) (cs : Array Value) (t : TypeId) : Bk (w.alloc (.cells cs t (0, 0))) w.heap.size cs t := by
  show (w.heap.push _)[w.heap.size]? = _; simp
theorem Bk.c {w : World} {b : Nat} {cs : Array Value} {t : TypeId} (h : Bk w b cs t) (j : Nat) (hj : j < cs.size) : w.cell? ⟨b, j, none⟩ = some cs[j] := by
  rw [blk_at h, Array.getElem?_eq_getElem hj]
theorem Bk.free {w : World} {b : Nat} {cs : Array Value} {t : TypeId} (h : Bk w b cs t) (j : Nat) : w.frozen? ⟨b, j, none⟩ = false := frozen_of_row w b j cs t h
theorem Bk.set {w : World} {b : Nat} {cs : Array Value} {t : TypeId} (h : Bk w b cs t) (j : Nat) (v : Value) : Bk (w.setCell ⟨b, j, none⟩ v) b (cs.setIfInBounds j v) t := by
  show (w.setCell ⟨b, j, none⟩ v).heap[b]? = _
  rw [setCell_eq_setRow w b j cs t (0, 0) v h]
  exact setRow_heap _ _ _ _ _ _ h
theorem below_put {w W : World} {B b j : Nat} {v : Value} (h : Below B w W) (hb : B ≤ b) : Below B w (W.setCell ⟨b, j, none⟩ v) := h.setCell hb v
abbrev caseV (nm ds : ByteArray) (sec : Int) (ro rt pv tr : Bool) (mn pf : Nat) (ix : Int) (st ex : Bool) (bo : Option Addr) (m bc : Nat) (py op : Nat) (fi : Int) (fl ty ck of ln : Nat) (ao : Option Addr) (n cap : Nat) : Value := .agg #[.string nm, .string ds, .int .i64 sec, .bool ro, .bool rt, .bool pv, .bool tr, .int .u32 (mn : Int), .int .u32 (pf : Int), .int .i64 ix, .bool st, .bool ex, .slice bo m bc, .int .u32 (py : Int), .int .u32 (op : Int), .int .i64 fi, .int .u16 (fl : Int), .int .u16 (ty : Int), .int .u64 (ck : Int), .int .u64 (of : Int), .int .u64 (ln : Int), .slice ao n cap]
theorem ranged_any (c : Nat) (hc : c < 65536) (w : World) : Calls Tryd.prog 17 #[.int .u16 (c : Int)] w fun e w' => e = .returned (.bool (decide (c ≠ 2 ∧ c ≠ 3))) ∧ w' = w := by
  by_cases h2 : c = 2
  · subst h2
    go_enter Tryd.func17, Tryd.ntmps17
    go_wp2
    go_ret
    exact ⟨rfl, rfl⟩
  · have h2' : (c : Int) ≠ 2 := by omega
    by_cases h3 : c = 3
    · subst h3
      go_enter Tryd.func17, Tryd.ntmps17
      go_wp2
      go_ret
      exact ⟨rfl, rfl⟩
    · have h3' : (c : Int) ≠ 3 := by omega
      rw [show decide (c ≠ 2 ∧ c ≠ 3) = true by simp [h2, h3]]
      go_enter Tryd.func17, Tryd.ntmps17
      go_wp2
      go_ret
      refine ⟨?_, rfl⟩
      simp [h2', h3']
/-- what changes nothing is judged alike -/
theorem chk_ro {sec : Int} {mn : Nat} {st ex : Bool} {m py fl ty of ln : Nat} (h : chOf ty = false) : chk sec true mn st ex m py fl ty of ln = chk sec false mn st ex m py fl ty of ln := by
  unfold chk; rw [h]; rfl
theorem ch_ty {ty : Nat} (h : chOf ty = true) : ty < 8 ∧ ty ≠ 2 ∧ ty ≠ 3 := by
  by_cases h8 : ty < 8
  · refine ⟨h8, ?_⟩
    rcases lt8 h8 with rfl | rfl | rfl | rfl | rfl | rfl | rfl | rfl <;> revert h <;> decide
  · rw [chOf_out (by omega)] at h; cases h
theorem chk_ch {sec : Int} {mn : Nat} {st ex : Bool} {m py fl ty of ln : Nat} (h : chOf ty = true) : chk sec true mn st ex m py fl ty of ln ≠ 0 := by
  obtain ⟨h8, h2, h3⟩ := ch_ty h
  unfold chk
  rw [h]
  unfold chkT
  cases hr : rfB st ex fl ty <;> simp [h8, h2, h3]

set_option maxHeartbeats 4000000 in
theorem ruleReadOnly_any (nm ds : ByteArray) (sec : Int) (ro rt pv tr : Bool) (mn pf : Nat) (ix : Int) (st ex : Bool) (bo : Option Addr) (m bc : Nat) (py op : Nat) (fi : Int) (fl ty ck of ln : Nat) (ao : Option Addr) (n cap : Nat) (hs : (Lit.int .i64 sec).wf = true) (hpy : py < 4294967296) (hmn : mn < 4294967296) (hf : fl < 65536) (ht : ty < 65536) (hof : of < 18446744073709551616) (hln : ln < 18446744073709551616) (w : World) (hT : Tb w) :
    Calls Tryd.prog 6 #[caseV nm ds sec ro rt pv tr mn pf ix st ex bo m bc py op fi fl ty ck of ln ao n cap] w fun e w' => e = .returned (.bool true) ∧ Below w.heap.size w w' := by
  obtain ⟨a, ha⟩ : ∃ a, chk sec false mn st ex m py fl ty of ln = a := ⟨_, rfl⟩
  obtain ⟨b, hb⟩ : ∃ b, chk sec true mn st ex m py fl ty of ln = b := ⟨_, rfl⟩
  obtain ⟨ch, hch⟩ : ∃ ch, chOf ty = ch := ⟨_, rfl⟩
  have HF : Hid (∀ W, Tb W → Calls Tryd.prog 15 #[expV nm ds sec false rt pv tr mn pf, sesV ix st ex bo m bc, limV py op fi, reqV fl ty ck of ln ao n cap] W fun e w' => e = .returned (.int .u32 (a : Int)) ∧ Below W.heap.size W w') := fun W hW => by
    rw [← ha]; exact check_any nm ds sec false rt pv tr mn pf ix st ex bo m bc py op fi fl ty ck of ln ao n cap hs hpy hmn hf ht hof hln W hW
  have HTr : Hid (∀ W, Tb W → Calls Tryd.prog 15 #[expV nm ds sec true rt pv tr mn pf, sesV ix st ex bo m bc, limV py op fi, reqV fl ty ck of ln ao n cap] W fun e w' => e = .returned (.int .u32 (b : Int)) ∧ Below W.heap.size W w') := fun W hW => by
    rw [← hb]; exact check_any nm ds sec true rt pv tr mn pf ix st ex bo m bc py op fi fl ty ck of ln ao n cap hs hpy hmn hf ht hof hln W hW
  have HCh : Hid (∀ W, Tb W → Calls Tryd.prog 12 #[.int .u16 (ty : Int)] W fun e w' => e = .returned (.bool ch) ∧ w' = W) := fun W hW => by
    rw [← hch]; exact changes_any ty ht W hW
  have HH : Hid (∀ W, Tb W → Calls Tryd.prog 16 #[] W fun e w' => e = .returned (.bool true) ∧ Below W.heap.size W w') := heads_any
  have HAB : Hid ((ch = false → a = b) ∧ (ch = true → b ≠ 0)) := by
    refine ⟨fun h => ?_, fun h => ?_⟩
    · rw [← ha, ← hb]; exact (chk_ro (hch.trans h)).symm
    · rw [← hb]; exact chk_ch (hch.trans h)
  have HT : Hid (Tb w) := hT
  clear hT ha hb hch hs hpy hmn hf ht hof hln
  go_enter Tryd.func6, Tryd.ntmps6
  go_wp2_with fail
  refine (HF.out _ (HT.out.alloc _)).mono ?_
  rintro e w1 ⟨rfl, hbe⟩
  have BK : Hid (Bk w1 w.heap.size #[.string nm, .string ds, .int .i64 sec, .bool false, .bool rt, .bool pv, .bool tr, .int .u32 (mn : Int), .int .u32 (pf : Int), .int .i64 ix, .bool st, .bool ex, .slice bo m bc, .int .u32 (py : Int), .int .u32 (op : Int), .int .i64 fi, .int .u16 (fl : Int), .int .u16 (ty : Int), .int .u64 (ck : Int), .int .u64 (of : Int), .int .u64 (ln : Int), .slice ao n cap] 38) := (Bk.new w _ _).later hbe
  have BB : Hid (Below w.heap.size w w1) := bcons (bnew _ _) hbe
  have TT : Hid (Tb w1) := (HT.out.alloc _).later hbe
  clear hbe HF
  have f3 := BK.out.free 3
  have c0 : w1.cell? ⟨w.heap.size, 0, none⟩ = some (.string nm) := BK.out.c 0 (by show 0 < 22; decide)
  have c1 : w1.cell? ⟨w.heap.size, 1, none⟩ = some (.string ds) := BK.out.c 1 (by show 1 < 22; decide)
  have c2 : w1.cell? ⟨w.heap.size, 2, none⟩ = some (.int .i64 sec) := BK.out.c 2 (by show 2 < 22; decide)
  have c3 : w1.cell? ⟨w.heap.size, 3, none⟩ = some (.bool false) := BK.out.c 3 (by show 3 < 22; decide)
  have c4 : w1.cell? ⟨w.heap.size, 4, none⟩ = some (.bool rt) := BK.out.c 4 (by show 4 < 22; decide)
  have c5 : w1.cell? ⟨w.heap.size, 5, none⟩ = some (.bool pv) := BK.out.c 5 (by show 5 < 22; decide)
  have c6 : w1.cell? ⟨w.heap.size, 6, none⟩ = some (.bool tr) := BK.out.c 6 (by show 6 < 22; decide)
  have c7 : w1.cell? ⟨w.heap.size, 7, none⟩ = some (.int .u32 (mn : Int)) := BK.out.c 7 (by show 7 < 22; decide)
  have c8 : w1.cell? ⟨w.heap.size, 8, none⟩ = some (.int .u32 (pf : Int)) := BK.out.c 8 (by show 8 < 22; decide)
  have c9 : w1.cell? ⟨w.heap.size, 9, none⟩ = some (.int .i64 ix) := BK.out.c 9 (by show 9 < 22; decide)
  have c10 : w1.cell? ⟨w.heap.size, 10, none⟩ = some (.bool st) := BK.out.c 10 (by show 10 < 22; decide)
  have c11 : w1.cell? ⟨w.heap.size, 11, none⟩ = some (.bool ex) := BK.out.c 11 (by show 11 < 22; decide)
  have c12 : w1.cell? ⟨w.heap.size, 12, none⟩ = some (.slice bo m bc) := BK.out.c 12 (by show 12 < 22; decide)
  have c13 : w1.cell? ⟨w.heap.size, 13, none⟩ = some (.int .u32 (py : Int)) := BK.out.c 13 (by show 13 < 22; decide)
  have c14 : w1.cell? ⟨w.heap.size, 14, none⟩ = some (.int .u32 (op : Int)) := BK.out.c 14 (by show 14 < 22; decide)
  have c15 : w1.cell? ⟨w.heap.size, 15, none⟩ = some (.int .i64 fi) := BK.out.c 15 (by show 15 < 22; decide)
  have c16 : w1.cell? ⟨w.heap.size, 16, none⟩ = some (.int .u16 (fl : Int)) := BK.out.c 16 (by show 16 < 22; decide)
  have c17 : w1.cell? ⟨w.heap.size, 17, none⟩ = some (.int .u16 (ty : Int)) := BK.out.c 17 (by show 17 < 22; decide)
  have c18 : w1.cell? ⟨w.heap.size, 18, none⟩ = some (.int .u64 (ck : Int)) := BK.out.c 18 (by show 18 < 22; decide)
  have c19 : w1.cell? ⟨w.heap.size, 19, none⟩ = some (.int .u64 (of : Int)) := BK.out.c 19 (by show 19 < 22; decide)
  have c20 : w1.cell? ⟨w.heap.size, 20, none⟩ = some (.int .u64 (ln : Int)) := BK.out.c 20 (by show 20 < 22; decide)
  have c21 : w1.cell? ⟨w.heap.size, 21, none⟩ = some (.slice ao n cap) := BK.out.c 21 (by show 21 < 22; decide)
  have BK2 : Hid (Bk (w1.setCell ⟨w.heap.size, 3, none⟩ (.bool true)) w.heap.size #[.string nm, .string ds, .int .i64 sec, .bool true, .bool rt, .bool pv, .bool tr, .int .u32 (mn : Int), .int .u32 (pf : Int), .int .i64 ix, .bool st, .bool ex, .slice bo m bc, .int .u32 (py : Int), .int .u32 (op : Int), .int .i64 fi, .int .u16 (fl : Int), .int .u16 (ty : Int), .int .u64 (ck : Int), .int .u64 (of : Int), .int .u64 (ln : Int), .slice ao n cap] 38) := BK.out.set 3 (.bool true)
  have BB2 : Hid (Below w.heap.size w (w1.setCell ⟨w.heap.size, 3, none⟩ (.bool true))) := below_put BB.out (Nat.le_refl _)
  have TT2 : Hid (Tb (w1.setCell ⟨w.heap.size, 3, none⟩ (.bool true))) := HT.out.later BB2.out
  go_wp2_with fail
  refine (HTr.out _ TT2.out).mono ?_
  rintro e w2 ⟨rfl, hbe⟩
  have BK3 : Hid (Bk w2 w.heap.size #[.string nm, .string ds, .int .i64 sec, .bool true, .bool rt, .bool pv, .bool tr, .int .u32 (mn : Int), .int .u32 (pf : Int), .int .i64 ix, .bool st, .bool ex, .slice bo m bc, .int .u32 (py : Int), .int .u32 (op : Int), .int .i64 fi, .int .u16 (fl : Int), .int .u16 (ty : Int), .int .u64 (ck : Int), .int .u64 (of : Int), .int .u64 (ln : Int), .slice ao n cap] 38) := BK2.out.later hbe
  have BB3 : Hid (Below w.heap.size w w2) := bcons BB2.out hbe
  have TT3 : Hid (Tb w2) := TT2.out.later hbe
  clear hbe HTr BK BB TT BK2 BB2 TT2 f3 c0 c1 c2 c3 c4 c5 c6 c7 c8 c9 c10 c11 c12 c13 c14 c15 c16 c17 c18 c19 c20 c21
  have c17 : w2.cell? ⟨w.heap.size, 17, none⟩ = some (.int .u16 (ty : Int)) := BK3.out.c 17 (by show 17 < 22; decide)
  go_wp2_with fail
  refine (HCh.out _ TT3.out).mono ?_
  rintro e w3 ⟨rfl, hw⟩
  rw [hw]; clear hw HCh c17
  cases ch
  · obtain rfl : a = b := HAB.out.1 rfl
    have e1 : ((a : Int) != (a : Int)) = false := by simp
    by_cases h0 : a = 0
    · subst h0
      go_wp2_with fail
      refine (HH.out _ TT3.out).mono ?_
      rintro e w4 ⟨rfl, hbe⟩
      have BB4 : Hid (Below w.heap.size w w4) := bcons BB3.out hbe
      clear hbe
      go_wp2
      go_ret
      exact ⟨rfl, BB4.out⟩
    · have h0' : (a : Int) ≠ 0 := by omega
      have h0e : ((a : Int) == 0) = false := eqf h0'
      have h0n : ((a : Int) != 0) = true := nef h0'
      go_wp2_with fail
      refine (HH.out _ TT3.out).mono ?_
      rintro e w4 ⟨rfl, hbe⟩
      have BB4 : Hid (Below w.heap.size w w4) := bcons BB3.out hbe
      clear hbe
      go_wp2
      go_ret
      exact ⟨rfl, BB4.out⟩
  · have hb0 : (b : Int) ≠ 0 := by have := HAB.out.2 rfl; omega
    have hb0e : ((b : Int) == 0) = false := eqf hb0
    have hb0n : ((b : Int) != 0) = true := nef hb0
    by_cases h0 : a = 0
    · subst h0
      go_wp2_with fail
      refine (HH.out _ TT3.out).mono ?_
      rintro e w4 ⟨rfl, hbe⟩
      have BB4 : Hid (Below w.heap.size w w4) := bcons BB3.out hbe
      clear hbe
      go_wp2
      go_ret
      exact ⟨rfl, BB4.out⟩
    · have h0' : (a : Int) ≠ 0 := by omega
      have h0e : ((a : Int) == 0) = false := eqf h0'
      have h0n : ((a : Int) != 0) = true := nef h0'
      go_wp2_with fail
      refine (HH.out _ TT3.out).mono ?_
      rintro e w4 ⟨rfl, hbe⟩
      have BB4 : Hid (Below w.heap.size w w4) := bcons BB3.out hbe
      clear hbe
      go_wp2
      go_ret
      exact ⟨rfl, BB4.out⟩
end Go.Proofs.YtodinademhibjaaDoor
