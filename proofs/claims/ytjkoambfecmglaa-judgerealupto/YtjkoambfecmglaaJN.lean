import Derived.Test.YtjkoambfecmglaaJF
import Derived.Deep.RegionHeld3
import Derived.Handy
namespace Go.Proofs.Ytjkoambfecmglaa
open Go.RowKit
set_option linter.unusedVariables false
set_option linter.unusedSimpArgs false
set_option maxRecDepth 100000
/-- what following answers: nothing, a place and a number; or the bytes -/
def FolOut (l : List Opv) (dss : List (List Nat)) (ord : List Int) (first : List Nat) (n : Nat) (w' : World) (v : Value) (at_ en : Int) : Prop :=
  (wrg n l ≠ 0 ∧ v = .slice none 0 0 ∧ at_ = 0 ∧ en = wrg n l) ∨
  (wrg n l = 0 ∧ ∃ (i : Nat) (bs : List Nat), FolR l dss ord first i bs ∧ i < ord.length ∧ (∀ k p ds, ¬ Goes l dss ord bs i k p ds) ∧ v = .slice none 0 0 ∧ at_ = i ∧ en = 172) ∨
  (wrg n l = 0 ∧ ∃ bs, FolR l dss ord first ord.length bs ∧ ¬ Whl l ord l.length ∧ v = .slice none 0 0 ∧ at_ = ord.length ∧ en = 172) ∨
  (wrg n l = 0 ∧ ∃ (bs : List Nat) (co : Option Addr) (cc : Nat), FolR l dss ord first ord.length bs ∧ Whl l ord l.length ∧ v = .slice co n cc ∧ BRow w' co cc bs ∧ bs.length = n ∧ at_ = 0 ∧ en = 0)
theorem ZRow.take {W : World} {ao : Option Addr} {l : List Int} (h : ZRow W ao l) (i : Nat) : ZRow W ao (l.take i) := ⟨fun hl => by
  obtain ⟨b, off, e, hc⟩ := h.at_ (fun e => hl (by rw [e]; simp))
  refine ⟨b, off, e, fun k hk => ?_⟩
  rw [List.length_take] at hk
  rw [hc k (by omega), List.getElem_take]⟩
theorem wrg_zero {n : Nat} {l : List Opv} (h : wrg n l = 0) : n ≤ 4096 ∧ ∀ (k : Nat) (p : Opv), l[k]? = some p → p.may n = true := by
  unfold wrg at h
  split at h
  · cases h
  · split at h
    · rename_i h1 h2
      exact ⟨by omega, fun k p hp => List.all_eq_true.1 h2 p (List.mem_of_getElem? hp)⟩
    · cases h
end Go.Proofs.Ytjkoambfecmglaa

namespace Go.Proofs.Ytjkoambfecmglaa
open Go.RowKit
set_option linter.unusedVariables false
set_option linter.unusedSimpArgs false
set_option maxRecDepth 100000
/-- the panic of 'must' -/
abbrev byOp (e : Ending) : Prop := e = .panicked [{ v := .iface 27 (.int .i64 171), recovered := false }]
/-- it comes back where b holds, and panics else -/
def endsBy (b : Bool) (e : Ending) : Prop := (b = true → e = .returned (.tuple #[])) ∧ (b = false → byOp e)
theorem endsBy.yes {b : Bool} (h : b = true) : endsBy b (.returned (.tuple #[])) := ⟨fun _ => rfl, fun h' => (by rw [h] at h'; cases h')⟩
theorem endsBy.no {b : Bool} (h : b = false) : endsBy b (.panicked [{ v := .iface 27 (.int .i64 171), recovered := false }]) := ⟨fun h' => (by rw [h] at h'; cases h'), fun _ => rfl⟩
theorem must_yes (w : World) : Calls Try.prog 63 #[.bool true] w fun e w' => e = .returned (.tuple #[]) ∧ w' = w := by
  go_enter Try.func63, Try.ntmps63
  go_wp2
  go_returns
  exact ⟨rfl, rfl⟩
theorem must_no (w : World) : Calls Try.prog 63 #[.bool false] w fun e w' => byOp e ∧ w' = w := by
  go_enter Try.func63, Try.ntmps63
  go_wp2
  exact ⟨rfl, rfl, rfl⟩
theorem box_cells {w : World} {cs : Array Value} {t : TypeId} {H9 : Nat} (hH : w.heap.size = H9) : ∀ V, Below (H9 + 1) (w.alloc (.cells cs t)) V → ∀ j v, cs[j]? = some v → V.cell? ⟨H9, j, none⟩ = some v := fun V hb j v hv => by
  have h1 : V.heap[H9]? = some (.cells cs t (0, 0)) := by rw [hb.block H9 (by omega), ← hH]; exact heap_new _ _
  rw [blk_at h1 j, hv]
set_option maxHeartbeats 4000000 in
theorem timed_neg (k fr t off len : Int) (da : Option Addr) (n dc : Nat) (sy : Bool) (w : World) (h : fr < 0) : Calls Try.prog 61 #[.agg (Opv.mk k fr t off len da n dc sy).cells] w fun e w' => byOp e ∧ Below w.heap.size w w' := by
  have HB : Hid (Below w.heap.size w (w.alloc (.cells #[.int .i64 k, .int .i64 fr, .int .i64 t, .int .i64 off, .int .i64 len, .slice da n dc, .bool sy] 50))) := (Below.refl w.heap.size w).alloc (Nat.le_refl _) _
  have d1 : decide (0 ≤ fr) = false := by simp; omega
  have d2 : ¬ (0 ≤ fr) := by omega
  clear h
  go_enter Try.func61, Try.ntmps61
  go_wp2_with (first | (go_at_call 63; refine (must_no _).mono ?_; rintro e w9 ⟨rfl, rfl⟩))
  exact ⟨rfl, rfl, HB.out⟩
set_option maxHeartbeats 8000000 in
theorem timed_ok (k fr t off len : Int) (da : Option Addr) (n dc : Nat) (sy : Bool) (w : World) (h : ¬ fr < 0) : Calls Try.prog 61 #[.agg (Opv.mk k fr t off len da n dc sy).cells] w fun e w' => endsBy ((!(t != -1) || decide (fr ≤ t)) && ((t != -1) || !sy)) e ∧ Below w.heap.size w w' := by
  have HB : Hid (Below w.heap.size w (w.alloc (.cells #[.int .i64 k, .int .i64 fr, .int .i64 t, .int .i64 off, .int .i64 len, .slice da n dc, .bool sy] 50))) := (Below.refl w.heap.size w).alloc (Nat.le_refl _) _
  have HC : Hid (∀ V, Below (w.heap.size + 1) (w.alloc (.cells #[.int .i64 k, .int .i64 fr, .int .i64 t, .int .i64 off, .int .i64 len, .slice da n dc, .bool sy] 50)) V → Below w.heap.size w V ∧ Below (w.heap.size + 1) (w.alloc (.cells #[.int .i64 k, .int .i64 fr, .int .i64 t, .int .i64 off, .int .i64 len, .slice da n dc, .bool sy] 50)) V ∧ w.heap.size + 1 ≤ V.heap.size ∧ V.cell? ⟨w.heap.size, 0, none⟩ = some (.int .i64 k) ∧ V.cell? ⟨w.heap.size, 1, none⟩ = some (.int .i64 fr) ∧ V.cell? ⟨w.heap.size, 2, none⟩ = some (.int .i64 t) ∧ V.cell? ⟨w.heap.size, 3, none⟩ = some (.int .i64 off) ∧ V.cell? ⟨w.heap.size, 4, none⟩ = some (.int .i64 len) ∧ V.cell? ⟨w.heap.size, 5, none⟩ = some (.slice da n dc) ∧ V.cell? ⟨w.heap.size, 6, none⟩ = some (.bool sy)) := fun V hV => by
    have h1 := box_cells rfl V hV
    have h2 := hV.size
    rw [World.size_alloc] at h2
    exact ⟨HB.out.trans (hV.mono (by omega)), hV, h2, h1 0 _ rfl, h1 1 _ rfl, h1 2 _ rfl, h1 3 _ rfl, h1 4 _ rfl, h1 5 _ rfl, h1 6 _ rfl⟩
  obtain ⟨a, ha⟩ : ∃ a, (t != -1) = a := ⟨_, rfl⟩
  have HA : Hid (∀ W, Calls Try.prog 43 #[.agg #[.int .i64 k, .int .i64 fr, .int .i64 t, .int .i64 off, .int .i64 len, .slice da n dc, .bool sy]] W fun e w' => e = .returned (.bool a) ∧ Below W.heap.size W w') := fun W => by rw [← ha]; exact answered_any ⟨k, fr, t, off, len, da, n, dc, sy⟩ W
  have d1 : decide (0 ≤ fr) = true := by simp; omega
  have d2 : 0 ≤ fr := by omega
  rw [ha]
  clear h ha
  cases a with
  | false =>
    go_enter Try.func61, Try.ntmps61
    go_wp2_with (first | (go_at_call 63; refine (must_yes _).mono ?_; rintro e w9 ⟨rfl, rfl⟩) | fail)
    refine (HA.out _).mono ?_
    rintro e W1 ⟨rfl, hb⟩
    have H1 : Hid _ := HC.out W1 (hb.mono (by rw [World.size_alloc]; exact Nat.le_refl _))
    clear hb
    obtain ⟨_, _, _, c0, c1, c2, c3, c4, c5, c6⟩ := H1.out
    go_wp2_with (first | (go_at_call 63; refine (must_yes _).mono ?_; rintro e w9 ⟨rfl, rfl⟩) | fail)
    refine (HA.out _).mono ?_
    rintro e W2 ⟨rfl, hb⟩
    have H2 : Hid _ := HC.out W2 (H1.out.2.1.trans (hb.mono H1.out.2.2.1))
    clear hb c0 c1 c2 c3 c4 c5 c6
    obtain ⟨_, _, _, c0, c1, c2, c3, c4, c5, c6⟩ := H2.out
    cases sy with
    | true =>
      go_wp2_with (first | (go_at_call 63; refine (must_no _).mono ?_; rintro e w9 ⟨rfl, rfl⟩) | fail)
      exact ⟨rfl, .no rfl, H2.out.1⟩
    | false =>
      go_wp2_with (first | (go_at_call 63; refine (must_yes _).mono ?_; rintro e w9 ⟨rfl, rfl⟩) | fail)
      go_returns
      exact ⟨.yes rfl, H2.out.1⟩
  | true =>
    go_enter Try.func61, Try.ntmps61
    go_wp2_with (first | (go_at_call 63; refine (must_yes _).mono ?_; rintro e w9 ⟨rfl, rfl⟩) | fail)
    refine (HA.out _).mono ?_
    rintro e W1 ⟨rfl, hb⟩
    have H1 : Hid _ := HC.out W1 (hb.mono (by rw [World.size_alloc]; exact Nat.le_refl _))
    clear hb
    obtain ⟨_, _, _, c0, c1, c2, c3, c4, c5, c6⟩ := H1.out
    by_cases hft : fr ≤ t
    · have e1 : decide (fr ≤ t) = true := decide_eq_true hft
      go_wp2_with (first | (go_at_call 63; refine (must_yes _).mono ?_; rintro e w9 ⟨rfl, rfl⟩) | fail)
      refine (HA.out _).mono ?_
      rintro e W2 ⟨rfl, hb⟩
      have H2 : Hid _ := HC.out W2 (H1.out.2.1.trans (hb.mono H1.out.2.2.1))
      clear hb c0 c1 c2 c3 c4 c5 c6
      obtain ⟨_, _, _, c0, c1, c2, c3, c4, c5, c6⟩ := H2.out
      go_wp2_with (first | (go_at_call 63; refine (must_yes _).mono ?_; rintro e w9 ⟨rfl, rfl⟩) | fail)
      go_returns
      exact ⟨.yes (by simp [hft]), H2.out.1⟩
    · have e1 : decide (fr ≤ t) = false := decide_eq_false hft
      go_wp2_with (first | (go_at_call 63; refine (must_no _).mono ?_; rintro e w9 ⟨rfl, rfl⟩) | fail)
      exact ⟨rfl, .no (by simp [hft]), H1.out.1⟩
end Go.Proofs.Ytjkoambfecmglaa

namespace Go.Proofs.Ytjkoambfecmglaa
open Go.RowKit
set_option linter.unusedVariables false
set_option linter.unusedSimpArgs false
set_option maxRecDepth 100000
set_option maxHeartbeats 8000000 in
theorem inside_any (k fr t off len : Int) (da : Option Addr) (n dc : Nat) (sy : Bool) (size : Nat) (w : World) (hs : size ≤ 4096) : Calls Try.prog 62 #[.agg (Opv.mk k fr t off len da n dc sy).cells, .int .i64 (size : Int)] w fun e w' => endsBy ((decide (0 ≤ off) && decide (off ≤ (size : Int))) && (decide (0 ≤ len) && decide (len ≤ (size : Int) - off))) e ∧ Below w.heap.size w w' := by
  have HB : Hid (Below w.heap.size w (w.alloc (.cells #[.int .i64 k, .int .i64 fr, .int .i64 t, .int .i64 off, .int .i64 len, .slice da n dc, .bool sy] 50))) := (Below.refl w.heap.size w).alloc (Nat.le_refl _) _
  by_cases h1 : 0 ≤ off ∧ off ≤ (size : Int)
  · have a1 : decide (0 ≤ off) = true := decide_eq_true h1.1
    have a2 : decide (off ≤ (size : Int)) = true := decide_eq_true h1.2
    have a3 : 0 ≤ off := h1.1
    have a4 : off ≤ (size : Int) := h1.2
    have a5 : IntKind.i64.wrap ((size : Int) - off) = (size : Int) - off := by rw [IntKind.wrap_i64]; omega
    by_cases h2 : 0 ≤ len ∧ len ≤ (size : Int) - off
    · have b1 : decide (0 ≤ len) = true := decide_eq_true h2.1
      have b2 : decide (len ≤ (size : Int) - off) = true := decide_eq_true h2.2
      have b3 : 0 ≤ len := h2.1
      have b4 : len ≤ (size : Int) - off := h2.2
      have HE : Hid (((decide (0 ≤ off) && decide (off ≤ (size : Int))) && (decide (0 ≤ len) && decide (len ≤ (size : Int) - off))) = true) := by show _ = _; rw [a1, a2, b1, b2]; rfl
      go_enter Try.func62, Try.ntmps62
      go_wp2_with (first | (go_at_call 63; refine (must_yes _).mono ?_; rintro e w9 ⟨rfl, rfl⟩) | fail)
      go_returns
      exact ⟨.yes HE.out, HB.out⟩
    · have HE : Hid (((decide (0 ≤ off) && decide (off ≤ (size : Int))) && (decide (0 ≤ len) && decide (len ≤ (size : Int) - off))) = false) := by show _ = _; rw [a1, a2]; simpa using h2
      by_cases h3 : 0 ≤ len
      · have b1 : decide (0 ≤ len) = true := decide_eq_true h3
        have b2 : decide (len ≤ (size : Int) - off) = false := decide_eq_false (fun h => h2 ⟨h3, h⟩)
        have b4 : ¬ len ≤ (size : Int) - off := fun h => h2 ⟨h3, h⟩
        clear h2
        go_enter Try.func62, Try.ntmps62
        go_wp2_with (first | (go_at_call 63; refine (must_yes _).mono ?_; rintro e w9 ⟨rfl, rfl⟩) | (go_at_call 63; refine (must_no _).mono ?_; rintro e w9 ⟨rfl, rfl⟩) | fail)
        exact ⟨rfl, .no HE.out, HB.out⟩
      · have b1 : decide (0 ≤ len) = false := decide_eq_false h3
        clear h2
        go_enter Try.func62, Try.ntmps62
        go_wp2_with (first | (go_at_call 63; refine (must_yes _).mono ?_; rintro e w9 ⟨rfl, rfl⟩) | (go_at_call 63; refine (must_no _).mono ?_; rintro e w9 ⟨rfl, rfl⟩) | fail)
        exact ⟨rfl, .no HE.out, HB.out⟩
  · have HE : Hid (((decide (0 ≤ off) && decide (off ≤ (size : Int))) && (decide (0 ≤ len) && decide (len ≤ (size : Int) - off))) = false) := by
      show _ = _
      have : (decide (0 ≤ off) && decide (off ≤ (size : Int))) = false := by simpa using h1
      rw [this]; rfl
    by_cases h3 : 0 ≤ off
    · have a1 : decide (0 ≤ off) = true := decide_eq_true h3
      have a2 : decide (off ≤ (size : Int)) = false := decide_eq_false (fun h => h1 ⟨h3, h⟩)
      have a4 : ¬ off ≤ (size : Int) := fun h => h1 ⟨h3, h⟩
      clear h1
      go_enter Try.func62, Try.ntmps62
      go_wp2_with (first | (go_at_call 63; refine (must_no _).mono ?_; rintro e w9 ⟨rfl, rfl⟩) | fail)
      exact ⟨rfl, .no HE.out, HB.out⟩
    · have a1 : decide (0 ≤ off) = false := decide_eq_false h3
      clear h1
      go_enter Try.func62, Try.ntmps62
      go_wp2_with (first | (go_at_call 63; refine (must_no _).mono ?_; rintro e w9 ⟨rfl, rfl⟩) | fail)
      exact ⟨rfl, .no HE.out, HB.out⟩
end Go.Proofs.Ytjkoambfecmglaa
