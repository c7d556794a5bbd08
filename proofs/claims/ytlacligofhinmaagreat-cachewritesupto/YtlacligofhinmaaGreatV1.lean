import Derived.Test.YtlacligofhinmaaGreatRows
import Derived.WalkKit
import Derived.WalkSpells
import Derived.WalkLawsBesides
import Derived.BigQuiet
import Derived.Deep.QuietTactic
import Derived.Laws.AppendOwnNone
import Derived.Test.YtlacligofhinmaaGreatProg
import Derived.Conc.RwLib
import Derived.Conc.MuData
import Derived.KernelRfl
namespace Go.Proofs.YtlacligofhinmaaGreat
open Go.RowKit
set_option linter.unusedVariables false

/-- a byte as a value -/
def bv (x : Nat) : Value := .int .u8 (x : Int)
/-- a slice value 'ao, length of l, cap' whose elements are the bytes l -/
structure BRow (w : World) (ao : Option Addr) (cap : Nat) (l : List Nat) : Prop where
  lt : ∀ x ∈ l, x < 256
  len : l.length ≤ 140737488351232
  nil : ao = none → l = [] ∧ cap = 0
  at_ : l ≠ [] → ∃ b off, ao = some ⟨b, off, none⟩ ∧ ∀ k (hk : k < l.length), w.cell? ⟨b, off + k, none⟩ = some (bv l[k])

theorem add_plain (b off j : Nat) : (⟨b, off, none⟩ : Addr).add j = ⟨b, off + j, none⟩ := by
  cases j with
  | zero => simp [Addr.add]
  | succ j => simp [Addr.add]
theorem BRow.later {w w' : World} {ao : Option Addr} {cap : Nat} {l : List Nat} (h : BRow w ao cap l) (hb : Below w.heap.size w w') : BRow w' ao cap l :=
  ⟨h.lt, h.len, h.nil, fun hne => by
    obtain ⟨b, off, e, hc⟩ := h.at_ hne
    exact ⟨b, off, e, fun k hk => cell_later hb (hc k hk)⟩⟩
theorem BRow.drewN {w : World} {ao : Option Addr} {cap : Nat} {l : List Nat} (h : BRow w ao cap l) (n : Nat) : BRow (w.drewN n) ao cap l :=
  ⟨h.lt, h.len, h.nil, fun hne => by
    obtain ⟨b, off, e, hc⟩ := h.at_ hne
    exact ⟨b, off, e, fun k hk => hc k hk⟩⟩
theorem BRow.own {w : World} {base : Nat} {v : Value} {l : List Nat} (h : w.ownsRow base 5 1 v l.length (l.map bv)) (hlt : ∀ x ∈ l, x < 256) (hlen : l.length ≤ 140737488351232) :
    ∃ ao cap, v = .slice ao l.length cap ∧ BRow w ao cap l := by
  rcases h.2 with ⟨hv, hn⟩ | ⟨g, cap, cur, hv, _⟩
  · have hl : l = [] := List.eq_nil_of_length_eq_zero hn
    subst hl
    exact ⟨none, 0, hv, ⟨hlt, hlen, fun _ => ⟨rfl, rfl⟩, fun h => absurd rfl h⟩⟩
  · subst hv
    refine ⟨_, _, rfl, ⟨hlt, hlen, fun h => by simp at h, fun _ => ⟨g, 0, rfl, fun k hk => ?_⟩⟩⟩
    have := h.cellAt k (by simpa using hk)
    rw [Nat.zero_add, this]; simp [hk]

theorem Tryz.info5 : (Tryz.prog.info? 5).map (fun i => (i.zero, i.size, i.bytes)) = some (some (.int .u8 0), 1, 1) := by kernel_rfl
theorem ret_bool {a b : Bool} (h : a = b) : Ending.returned (.bool a) = .returned (.bool b) := by rw [h]
end Go.Proofs.YtlacligofhinmaaGreat

namespace Go.Proofs
abbrev Tryz.muLink : Go.Conc.Locks.MuLink := { lock := 61, unlock := 62, ilock := 108, iunlock := 109, lockSlow := 139, unlockSlow := 142, disable := 135, enable := 137, acquire := 138, relMerge := 140, cas32 := 136, add32 := 141, tMutex := 121, tIMutex := 119, tPMutex := 174, tPIMutex := 193, tPI32 := 195, tUP := 197, tNoCopy := 116, tU32 := 117 }
theorem Tryz.muLib : Go.Conc.Locks.MuLib Tryz.prog Tryz.muLink :=
  ⟨Tryz.func61, Tryz.func62, Tryz.func108, Tryz.func109, Tryz.func135, Tryz.func137, Tryz.func138, Tryz.func140, Tryz.func136, Tryz.func141, Tryz.underlying119, Tryz.runUnderlying119, Tryz.sizeOf119, Tryz.isAgg119, Tryz.zeroValue119, Tryz.underlying121, Tryz.runUnderlying121, Tryz.sizeOf121, Tryz.isAgg121, Tryz.zeroValue121, Tryz.underlying174, Tryz.runUnderlying174, Tryz.sizeOf174, Tryz.isAgg174, Tryz.zeroValue174, Tryz.underlying193, Tryz.runUnderlying193, Tryz.sizeOf193, Tryz.isAgg193, Tryz.zeroValue193, Tryz.underlying195, Tryz.runUnderlying195, Tryz.sizeOf195, Tryz.isAgg195, Tryz.zeroValue195, Tryz.underlying197, Tryz.runUnderlying197, Tryz.sizeOf197, Tryz.isAgg197, Tryz.zeroValue197, Tryz.underlying116, Tryz.runUnderlying116, Tryz.sizeOf116, Tryz.isAgg116, Tryz.zeroValue116, Tryz.underlying21, Tryz.runUnderlying21, Tryz.sizeOf21, Tryz.isAgg21, Tryz.zeroValue21, (by kernel_rfl)⟩
theorem Tryz.muData : Go.Conc.Locks.MuData Tryz.prog Tryz.muLink := ⟨Tryz.underlying117, by kernel_rfl, by kernel_rfl, by kernel_rfl, by kernel_rfl, by kernel_rfl⟩
end Go.Proofs
