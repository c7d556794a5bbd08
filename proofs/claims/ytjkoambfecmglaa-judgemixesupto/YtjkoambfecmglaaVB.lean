import Derived.Test.YtjkoambfecmglaaTA
namespace Go.Proofs.Ytjkoambfecmglaa
open Go.RowKit
set_option linter.unusedVariables false
set_option linter.unusedSimpArgs false
set_option maxRecDepth 100000
/-- an operation, as its cells say it -/
structure Opv where
  k : Int
  fr : Int
  to_ : Int
  off : Int
  len : Int
  da : Option Addr
  n : Nat
  dc : Nat
  sy : Bool
abbrev Opv.cells (o : Opv) : Array Value := #[.int .i64 o.k, .int .i64 o.fr, .int .i64 o.to_, .int .i64 o.off, .int .i64 o.len, .slice o.da o.n o.dc, .bool o.sy]
def Opv.ans (o : Opv) : Bool := o.to_ != -1
def Opv.bef (a b : Opv) : Bool := a.ans && decide (a.to_ < b.fr)
set_option maxHeartbeats 1000000 in
theorem answered_any (o : Opv) (w : World) : Calls Try.prog 43 #[.agg o.cells] w fun e w' => e = .returned (.bool o.ans) ∧ Below w.heap.size w w' := by
  obtain ⟨k, fr, t, off, len, da, n, dc, sy⟩ := o
  obtain ⟨b, hb⟩ : ∃ b, (t != -1) = b := ⟨_, rfl⟩
  have hans : (Opv.mk k fr t off len da n dc sy).ans = b := hb
  rw [hans]
  have hbel := (Below.refl w.heap.size w).alloc (Nat.le_refl _) (Obj.cells #[.int .i64 k, .int .i64 fr, .int .i64 t, .int .i64 off, .int .i64 len, .slice da n dc, .bool sy] 50)
  have HB : Hid _ := hbel
  clear hbel hans
  go_enter Try.func43, Try.ntmps43
  go_wp2
  go_ret
  exact ⟨rfl, HB.out⟩
end Go.Proofs.Ytjkoambfecmglaa
