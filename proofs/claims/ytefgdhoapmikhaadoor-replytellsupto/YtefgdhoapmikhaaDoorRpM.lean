import Derived.Test.YtefgdhoapmikhaaDoorJB
namespace Go.Proofs.YtefgdhoapmikhaaDoor
open Go.RowKit
set_option linter.unusedVariables false
set_option linter.unusedSimpArgs false
set_option maxRecDepth 100000
/-- a piece of a read, as numbers, its data as a slice -/
structure Pc where
  off : Nat
  ln : Nat
  hole : Bool
  ao : Option Addr
  n : Nat
  cap : Nat
def Pc.cells (p : Pc) : Array Value := #[.int .u64 (p.off : Int), .int .u32 (p.ln : Int), .bool p.hole, .slice p.ao p.n p.cap]
def Pc.ok (p : Pc) : Prop := p.off < 18446744073709551616 ∧ p.ln < 4294967296 ∧ p.n ≤ 140737488351232
/-- pieces in memory -/
structure PRow (w : World) (ao : Option Addr) (l : List Pc) : Prop where
  ok : ∀ p ∈ l, p.ok
  len : l.length ≤ 1048576
  at_ : l ≠ [] → ∃ b off, ao = some ⟨b, off, none⟩ ∧ ∀ k (hk : k < l.length) j (hj : j < 4), w.cell? ⟨b, off + k * 4 + j, none⟩ = (l[k].cells)[j]?
theorem PRow.later {w w' : World} {ao : Option Addr} {l : List Pc} (h : PRow w ao l) (hb : Below w.heap.size w w') : PRow w' ao l := by
  refine ⟨h.ok, h.len, fun hne => ?_⟩
  obtain ⟨b, off, e, hc⟩ := h.at_ hne
  refine ⟨b, off, e, fun k hk j hj => ?_⟩
  have h1 := hc k hk j hj
  have hs : (l[k].cells).size = 4 := rfl
  obtain ⟨u, hu⟩ : ∃ u, (l[k].cells)[j]? = some u := ⟨(l[k].cells)[j]'(by omega), Array.getElem?_eq_getElem (show j < l[k].cells.size by omega)⟩
  rw [hu] at h1 ⊢
  exact cell_later hb h1
/-- is a piece one, by itself? -/
def pcB (p : Pc) : Bool := decide (0 < p.ln) && decide (p.n = if p.hole = true then 0 else p.ln) && decide (p.off + p.ln ≤ 18446744073709551616)
/-- do pieces lie end to end? -/
def pieB (off len done : Nat) : List Pc → Bool
  | [] => decide (done = len)
  | p :: t => pcB p && (decide (p.off = off + done) && (decide (done + p.ln ≤ len) && pieB off len (done + p.ln) t))
/-- a run of a status -/
structure Rn where
  ln : Nat
  fl : Nat
def Rn.cells (x : Rn) : Array Value := #[.int .u64 (x.ln : Int), .int .u64 (x.fl : Int)]
def Rn.ok (x : Rn) : Prop := x.ln < 18446744073709551616 ∧ x.fl < 18446744073709551616
/-- runs in memory -/
structure RuRow (w : World) (ao : Option Addr) (l : List Rn) : Prop where
  ok : ∀ p ∈ l, p.ok
  len : l.length ≤ 1048576
  at_ : l ≠ [] → ∃ b off, ao = some ⟨b, off, none⟩ ∧ ∀ k (hk : k < l.length) j (hj : j < 2), w.cell? ⟨b, off + k * 2 + j, none⟩ = (l[k].cells)[j]?
theorem RuRow.later {w w' : World} {ao : Option Addr} {l : List Rn} (h : RuRow w ao l) (hb : Below w.heap.size w w') : RuRow w' ao l := by
  refine ⟨h.ok, h.len, fun hne => ?_⟩
  obtain ⟨b, off, e, hc⟩ := h.at_ hne
  refine ⟨b, off, e, fun k hk j hj => ?_⟩
  have h1 := hc k hk j hj
  have hs : (l[k].cells).size = 2 := rfl
  obtain ⟨u, hu⟩ : ∃ u, (l[k].cells)[j]? = some u := ⟨(l[k].cells)[j]'(by omega), Array.getElem?_eq_getElem (show j < l[k].cells.size by omega)⟩
  rw [hu] at h1 ⊢
  exact cell_later hb h1
def rnB (left : Nat) (wide : Bool) (x : Rn) : Bool := decide (0 < x.ln) && (decide (x.ln ≤ left) && (wide || (decide (x.ln < 4294967296) && decide (x.fl < 4294967296))))
def runB (left : Nat) (wide : Bool) : List Rn → Bool
  | [] => decide (left = 0)
  | x :: t => rnB left wide x && runB (left - x.ln) wide t
/-- has a list runs, together so many bytes? -/
def runsB (len : Nat) (wide : Bool) (l : List Rn) : Bool := decide (0 < l.length) && runB len wide l
/-- one list of runs: its slice and what is in it -/
structure Ls where
  ao : Option Addr
  cap : Nat
  l : List Rn
/-- lists of runs in memory -/
structure LRow (w : World) (ao : Option Addr) (L : List Ls) : Prop where
  row : ∀ x ∈ L, RuRow w x.ao x.l ∧ x.l.length ≤ x.cap ∧ x.cap ≤ 9223372036854775807
  len : L.length ≤ 1048576
  at_ : L ≠ [] → ∃ b off, ao = some ⟨b, off, none⟩ ∧ ∀ k (hk : k < L.length), w.cell? ⟨b, off + k, none⟩ = some (.slice L[k].ao L[k].l.length L[k].cap)
theorem LRow.later {w w' : World} {ao : Option Addr} {L : List Ls} (h : LRow w ao L) (hb : Below w.heap.size w w') : LRow w' ao L := by
  refine ⟨fun x hx => ⟨(h.row x hx).1.later hb, (h.row x hx).2⟩, h.len, fun hne => ?_⟩
  obtain ⟨b, off, e, hc⟩ := h.at_ hne
  exact ⟨b, off, e, fun k hk => cell_later hb (hc k hk)⟩
def listsB (len : Nat) (wide : Bool) (L : List Ls) : Bool := L.all fun x => runsB len wide x.l
/-- is an answer in chunks? -/
def strB (st ex : Bool) (ty : Nat) : Bool := ex || (st && (decide (ty = 0) || decide (ty = 7)))
/-- P12.1 -/
def fitB12 (st ex : Bool) (cn ty off len code : Nat) (pl : Bool) (at_ : Nat) (P : List Pc) (L : List Ls) : Bool :=
  if code ≠ 0 then decide (P.length = 0) && (decide (L.length = 0) && (if pl = true then decide (off ≤ at_) && decide (at_ < off + len) else decide (at_ = 0)))
  else if pl = true ∨ at_ ≠ 0 then false
  else if ty = 0 then decide (L.length = 0) && pieB off len 0 P
  else if ty = 7 then decide (P.length = 0) && ((st || ex) && (decide (cn ≠ 0) && (decide (L.length = cn) && listsB len ex L)))
  else decide (P.length = 0) && decide (L.length = 0)
theorem pie_step (off len done : Nat) (l : List Pc) (k : Nat) (hk : k < l.length) : pieB off len done (l.drop k) = (pcB l[k] && (decide (l[k].off = off + done) && (decide (done + l[k].ln ≤ len) && pieB off len (done + l[k].ln) (l.drop (k + 1))))) := by
  rw [List.drop_eq_getElem_cons hk]; rfl
theorem run_step (left : Nat) (wide : Bool) (l : List Rn) (k : Nat) (hk : k < l.length) : runB left wide (l.drop k) = (rnB left wide l[k] && runB (left - l[k].ln) wide (l.drop (k + 1))) := by
  rw [List.drop_eq_getElem_cons hk]; rfl
end Go.Proofs.YtefgdhoapmikhaaDoor
