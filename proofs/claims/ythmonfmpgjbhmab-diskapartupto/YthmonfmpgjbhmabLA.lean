import Derived.Test.YthmonfmpgjbhmabKH
namespace Go.Proofs.Ythmonfmpgjbhmab.K
open Go.RowKit Go.Maps Go.Proofs.Ythmonfmpgjbhmab
attribute [local go_sem] Oper.semAt_some
set_option linter.unusedVariables false
set_option linter.unusedSimpArgs false
set_option maxRecDepth 100000

/-- does an operation meet a fault? -/
def touch (f : Flt) (k s : Int) : Bool := decide (f.kind = k) && (decide (k = 3) || decide (f.sector = -1) || decide (f.sector = s))
/-- what an operation leaves of the faults, and the fault that it fails by -/
def failL (k s : Int) : List Flt → List Flt × Option Flt
  | [] => ([], none)
  | f :: fs =>
    if touch f k s = false then (f :: (failL k s fs).1, (failL k s fs).2)
    else if 0 < f.after then ({ f with after := f.after - 1 } :: (failL k s fs).1, (failL k s fs).2)
    else if f.times - 1 = 0 then (fs, some { f with times := f.times - 1 })
    else ({ f with times := f.times - 1 } :: fs, some { f with times := f.times - 1 })
theorem touches_any (w : World) (f : Flt) (k s : Int) : Calls Try.prog 51 #[.agg (fcell f).toArray, .int .i64 k, .int .i64 s] w fun r w' => r = .returned (.bool (touch f k s)) ∧ Below w.heap.size w w' := by
  have HT : Hid (∀ b : Bool, touch f k s = b → Value.bool b = .bool (touch f k s)) := fun b h => by rw [h]
  have hT : touch f k s = (decide (f.kind = k) && (decide (k = 3) || decide (f.sector = -1) || decide (f.sector = s))) := rfl
  unfold fcell
  by_cases h1 : f.kind = k
  · by_cases h2 : k = 3
    · have hv : touch f k s = true := by rw [hT]; simp [h1, h2]
      rw [hv]
      clear hT hv HT
      go_enter Try.func51, Try.ntmps51
      go_wp2
      go_ret
      exact ⟨rfl, (Below.refl _ w).alloc (Nat.le_refl _) _⟩
    · by_cases h3 : f.sector = -1
      · have hv : touch f k s = true := by rw [hT]; simp [h1, h3]
        rw [hv]
        clear hT hv HT
        have e2 : (k == 3) = false := by simpa using h2
        go_enter Try.func51, Try.ntmps51
        go_wp2
        go_ret
        exact ⟨rfl, (Below.refl _ w).alloc (Nat.le_refl _) _⟩
      · by_cases h4 : f.sector = s
        · have hv : touch f k s = true := by rw [hT]; simp [h1, h4]
          rw [hv]
          clear hT hv HT
          have e2 : (k == 3) = false := by simpa using h2
          have e3 : (f.sector == -1) = false := by simpa using h3
          go_enter Try.func51, Try.ntmps51
          go_wp2
          go_ret
          exact ⟨rfl, (Below.refl _ w).alloc (Nat.le_refl _) _⟩
        · have hv : touch f k s = false := by rw [hT]; simp [h1, h2, h3, h4]
          rw [hv]
          clear hT hv HT
          have e2 : (k == 3) = false := by simpa using h2
          have e3 : (f.sector == -1) = false := by simpa using h3
          have e4 : (f.sector == s) = false := by simpa using h4
          go_enter Try.func51, Try.ntmps51
          go_wp2
          go_ret
          exact ⟨by simp [e4, h4], (Below.refl _ w).alloc (Nat.le_refl _) _⟩
  · have hv : touch f k s = false := by rw [hT]; simp [h1]
    rw [hv]
    clear hT hv HT
    have e1 : (f.kind == k) = false := by simpa using h1
    go_enter Try.func51, Try.ntmps51
    go_wp2
    go_ret
    exact ⟨rfl, (Below.refl _ w).alloc (Nat.le_refl _) _⟩
end Go.Proofs.Ythmonfmpgjbhmab.K
