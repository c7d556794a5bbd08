import Derived.Test.YtijafckdbhklmabXQI
import Derived.Deep.QuietTactic
import Derived.BigQuiet
namespace Go.Proofs.Ytijafckdbhklmab.I
open Go.RowKit Go.Sort Go.Lib
set_option linter.unusedVariables false
set_option linter.unusedSimpArgs false
set_option maxRecDepth 100000

abbrev Put := Int × Int × Int
abbrev may (size lo hi : Int) : Prop := 0 ≤ lo ∧ lo ≤ hi ∧ hi ≤ size
/-- the value of a place, by the Sets themselves -/
def lastV (size first : Int) (l : List Put) (p : Int) : Int := l.foldl (fun v q => if may size q.1 q.2.1 ∧ q.1 ≤ p ∧ p < q.2.1 then q.2.2 else v) first
theorem lastV_snoc (size first : Int) (l : List Put) (q : Put) (p : Int) : lastV size first (l ++ [q]) p = if may size q.1 q.2.1 ∧ q.1 ≤ p ∧ p < q.2.1 then q.2.2 else lastV size first l p := by
  simp [lastV]
/-- a list of Sets, as it lies -/
def Puts (w : World) (ao : Option Addr) (l : List Put) : Prop := ∀ k q, l[k]? = some q → ∃ b off, ao = some ⟨b, off, none⟩ ∧ w.cell? ⟨b, off + k * 3, none⟩ = some (.int .i64 q.1) ∧ w.cell? ⟨b, off + k * 3 + 1, none⟩ = some (.int .i64 q.2.1) ∧ w.cell? ⟨b, off + k * 3 + 2, none⟩ = some (.int .i64 q.2.2)
theorem Puts.later {w w' : World} {ao : Option Addr} {l : List Put} (h : Puts w ao l) (hb : Below w.heap.size w w') : Puts w' ao l := fun k q hk => by
  obtain ⟨b, off, e, h0, h1, h2⟩ := h k q hk
  exact ⟨b, off, e, cell_later hb h0, cell_later hb h1, cell_later hb h2⟩

theorem sized_yes (size : Int) (w : World) (h0 : 0 ≤ size) (h1 : size ≤ 1099511627776) : Calls Try.prog 10 #[.int .i64 size] w fun e w' => e = .returned (.bool true) ∧ w' = w := by
  go_enter Try.func10, Try.ntmps10
  go_wp2
  go_ret
  exact ⟨rfl, rfl⟩
theorem sized_no (size : Int) (w : World) (h : size < 0 ∨ 1099511627776 < size) : Calls Try.prog 10 #[.int .i64 size] w fun e w' => e = .returned (.bool false) ∧ w' = w := by
  go_enter Try.func10, Try.ntmps10
  by_cases h0 : 0 ≤ size
  · have h1 : ¬ size ≤ 1099511627776 := by omega
    clear h
    go_wp2
    go_ret
    exact ⟨rfl, rfl⟩
  · clear h
    go_wp2
    go_ret
    exact ⟨rfl, rfl⟩
theorem size_any {w : World} {B bm : Nat} {v : Value} {size : Int} {rs : List (Rn Int)} (h : MO w B bm v size rs) :
    Calls Try.prog 19 #[.pointer (some ⟨bm, 0, none⟩)] w fun e w' => e = .returned (.int .i64 size) ∧ w' = w := by
  have c0 : w.cell? ⟨bm, 0, none⟩ = some (.bool true) := h.c 0
  have c1 : w.cell? ⟨bm, 1, none⟩ = some (.int .i64 size) := h.c 1
  clear h
  go_enter Try.func19, Try.ntmps19
  go_wp2_with (go_at_call 33; refine (usable_at bm true _ c0).mono ?_; rintro e w9 ⟨rfl, hw9⟩; rw [hw9]; clear hw9)
  go_ret
  exact ⟨rfl, rfl⟩
theorem at_out {w : World} {B bm : Nat} {v : Value} {size : Int} {rs : List (Rn Int)} (h : MO w B bm v size rs) (i : Int) (ho : i < 0 ∨ size ≤ i) :
    Calls Try.prog 16 #[.pointer (some ⟨bm, 0, none⟩), .int .i64 i] w fun e w' => e = .returned (.tuple #[.int .i64 0, .bool false]) ∧ w' = w := by
  have c0 : w.cell? ⟨bm, 0, none⟩ = some (.bool true) := h.c 0
  have c1 : w.cell? ⟨bm, 1, none⟩ = some (.int .i64 size) := h.c 1
  clear h
  go_enter Try.func16, Try.ntmps16
  by_cases h0 : i < 0
  · clear ho
    go_wp2_with (go_at_call 33; refine (usable_at bm true _ c0).mono ?_; rintro e w9 ⟨rfl, hw9⟩; rw [hw9]; clear hw9)
    go_ret2
    exact ⟨rfl, rfl⟩
  · have h1 : size ≤ i := by omega
    clear ho
    go_wp2_with (go_at_call 33; refine (usable_at bm true _ c0).mono ?_; rintro e w9 ⟨rfl, hw9⟩; rw [hw9]; clear hw9)
    go_ret2
    exact ⟨rfl, rfl⟩

end Go.Proofs.Ytijafckdbhklmab.I
