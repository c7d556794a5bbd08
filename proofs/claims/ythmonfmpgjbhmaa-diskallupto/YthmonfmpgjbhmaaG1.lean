import Derived.Test.YthmonfmpgjbhmaaRows
import Derived.WalkKit
import Derived.WalkSpells
import Derived.WalkLawsBesides
import Derived.BigQuiet
import Derived.Deep.QuietTactic
import Derived.Laws.AppendOwnNone
import Derived.Test.YthmonfmpgjbhmaaProg
import Derived.Conc.RwLib
import Derived.Conc.MuData
import Derived.KernelRfl
namespace Go.Proofs.Ythmonfmpgjbhmaa
open Go.RowKit
set_option linter.unusedVariables false

/-- a byte as a value -/
def bv (x : Nat) : Value := .int .u8 (x : Int)
/-- a slice value 'ao, length of l, cap' whose elements are the bytes l -/
structure BRow (w : World) (ao : Option Addr) (cap : Nat) (l : List Nat) : Prop where
  lt : ∀ x ∈ l, x < 256
  len : l.length ≤ 140737488351232
  nil : ao = none → l = [] ∧ cap = 0
  at_ : l ≠ [] → ∃ b off, ao = some ⟨b, off, none⟩ ∧ ∀ k (hk : k < l.length), w.cell? ⟨b, off + k, none⟩ = some (bv l[k])

theorem add_plain (b off j : Nat) : (⟨b, off, none⟩ : Addr).add j = ⟨b, off + j, none⟩ := by
  cases j with
  | zero => simp [Addr.add]
  | succ j => simp [Addr.add]
theorem BRow.later {w w' : World} {ao : Option Addr} {cap : Nat} {l : List Nat} (h : BRow w ao cap l) (hb : Below w.heap.size w w') : BRow w' ao cap l :=
  ⟨h.lt, h.len, h.nil, fun hne => by
    obtain ⟨b, off, e, hc⟩ := h.at_ hne
    exact ⟨b, off, e, fun k hk => cell_later hb (hc k hk)⟩⟩
theorem BRow.drewN {w : World} {ao : Option Addr} {cap : Nat} {l : List Nat} (h : BRow w ao cap l) (n : Nat) : BRow (w.drewN n) ao cap l :=
  ⟨h.lt, h.len, h.nil, fun hne => by
    obtain ⟨b, off, e, hc⟩ := h.at_ hne
    exact ⟨b, off, e, fun k hk => hc k hk⟩⟩
theorem BRow.own {w : World} {base : Nat} {v : Value} {l : List Nat} (h : w.ownsRow base 5 1 v l.length (l.map bv)) (hlt : ∀ x ∈ l, x < 256) (hlen : l.length ≤ 140737488351232) :
    ∃ ao cap, v = .slice ao l.length cap ∧ BRow w ao cap l := by
  rcases h.2 with ⟨hv, hn⟩ | ⟨g, cap, cur, hv, _⟩
  · have hl : l = [] := List.eq_nil_of_length_eq_zero hn
    subst hl
    exact ⟨none, 0, hv, ⟨hlt, hlen, fun _ => ⟨rfl, rfl⟩, fun h => absurd rfl h⟩⟩
  · subst hv
    refine ⟨_, _, rfl, ⟨hlt, hlen, fun h => by simp at h, fun _ => ⟨g, 0, rfl, fun k hk => ?_⟩⟩⟩
    have := h.cellAt k (by simpa using hk)
    rw [Nat.zero_add, this]; simp [hk]

theorem Try.info5 : (Try.prog.info? 5).map (fun i => (i.zero, i.size, i.bytes)) = some (some (.int .u8 0), 1, 1) := by kernel_rfl
theorem ret_bool {a b : Bool} (h : a = b) : Ending.returned (.bool a) = .returned (.bool b) := by rw [h]
end Go.Proofs.Ythmonfmpgjbhmaa

namespace Go.Proofs
abbrev Try.muLink : Go.Conc.Locks.MuLink := { lock := 28, unlock := 29, ilock := 46, iunlock := 47, lockSlow := 68, unlockSlow := 71, disable := 64, enable := 66, acquire := 67, relMerge := 69, cas32 := 65, add32 := 70, tMutex := 65, tIMutex := 63, tPMutex := 97, tPIMutex := 111, tPI32 := 113, tUP := 115, tNoCopy := 60, tU32 := 61 }
theorem Try.muLib : Go.Conc.Locks.MuLib Try.prog Try.muLink :=
  ⟨Try.func28, Try.func29, Try.func46, Try.func47, Try.func64, Try.func66, Try.func67, Try.func69, Try.func65, Try.func70, Try.underlying63, Try.runUnderlying63, Try.sizeOf63, Try.isAgg63, Try.zeroValue63, Try.underlying65, Try.runUnderlying65, Try.sizeOf65, Try.isAgg65, Try.zeroValue65, Try.underlying97, Try.runUnderlying97, Try.sizeOf97, Try.isAgg97, Try.zeroValue97, Try.underlying111, Try.runUnderlying111, Try.sizeOf111, Try.isAgg111, Try.zeroValue111, Try.underlying113, Try.runUnderlying113, Try.sizeOf113, Try.isAgg113, Try.zeroValue113, Try.underlying115, Try.runUnderlying115, Try.sizeOf115, Try.isAgg115, Try.zeroValue115, Try.underlying60, Try.runUnderlying60, Try.sizeOf60, Try.isAgg60, Try.zeroValue60, Try.underlying21, Try.runUnderlying21, Try.sizeOf21, Try.isAgg21, Try.zeroValue21, (by kernel_rfl)⟩
theorem Try.muData : Go.Conc.Locks.MuData Try.prog Try.muLink := ⟨Try.underlying61, by kernel_rfl, by kernel_rfl, by kernel_rfl, by kernel_rfl, by kernel_rfl⟩
end Go.Proofs
