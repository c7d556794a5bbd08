import Derived.Test.YtijimcjmpeakpaaGreatRows
import Derived.WalkKit
import Derived.WalkSpells
import Derived.WalkLawsBesides
import Derived.BigQuiet
import Derived.Deep.QuietTactic
import Derived.Laws.AppendOwnNone
import Derived.Test.YtijimcjmpeakpaaGreatProg
import Derived.Conc.RwLib
import Derived.Conc.MuData
import Derived.KernelRfl
namespace Go.Proofs.YtijimcjmpeakpaaGreat
open Go.RowKit
set_option linter.unusedVariables false

/-- a byte as a value -/
def bv (x : Nat) : Value := .int .u8 (x : Int)
/-- a slice value 'ao, length of l, cap' whose elements are the bytes l -/
structure BRow (w : World) (ao : Option Addr) (cap : Nat) (l : List Nat) : Prop where
  lt : ∀ x ∈ l, x < 256
  len : l.length ≤ 140737488351232
  nil : ao = none → l = [] ∧ cap = 0
  at_ : l ≠ [] → ∃ b off, ao = some ⟨b, off, none⟩ ∧ ∀ k (hk : k < l.length), w.cell? ⟨b, off + k, none⟩ = some (bv l[k])

theorem add_plain (b off j : Nat) : (⟨b, off, none⟩ : Addr).add j = ⟨b, off + j, none⟩ := by
  cases j with
  | zero => simp [Addr.add]
  | succ j => simp [Addr.add]
theorem BRow.later {w w' : World} {ao : Option Addr} {cap : Nat} {l : List Nat} (h : BRow w ao cap l) (hb : Below w.heap.size w w') : BRow w' ao cap l :=
  ⟨h.lt, h.len, h.nil, fun hne => by
    obtain ⟨b, off, e, hc⟩ := h.at_ hne
    exact ⟨b, off, e, fun k hk => cell_later hb (hc k hk)⟩⟩
theorem BRow.drewN {w : World} {ao : Option Addr} {cap : Nat} {l : List Nat} (h : BRow w ao cap l) (n : Nat) : BRow (w.drewN n) ao cap l :=
  ⟨h.lt, h.len, h.nil, fun hne => by
    obtain ⟨b, off, e, hc⟩ := h.at_ hne
    exact ⟨b, off, e, fun k hk => hc k hk⟩⟩
theorem BRow.own {w : World} {base : Nat} {v : Value} {l : List Nat} (h : w.ownsRow base 5 1 v l.length (l.map bv)) (hlt : ∀ x ∈ l, x < 256) (hlen : l.length ≤ 140737488351232) :
    ∃ ao cap, v = .slice ao l.length cap ∧ BRow w ao cap l := by
  rcases h.2 with ⟨hv, hn⟩ | ⟨g, cap, cur, hv, _⟩
  · have hl : l = [] := List.eq_nil_of_length_eq_zero hn
    subst hl
    exact ⟨none, 0, hv, ⟨hlt, hlen, fun _ => ⟨rfl, rfl⟩, fun h => absurd rfl h⟩⟩
  · subst hv
    refine ⟨_, _, rfl, ⟨hlt, hlen, fun h => by simp at h, fun _ => ⟨g, 0, rfl, fun k hk => ?_⟩⟩⟩
    have := h.cellAt k (by simpa using hk)
    rw [Nat.zero_add, this]; simp [hk]

theorem Tryz.info5 : (Tryz.prog.info? 5).map (fun i => (i.zero, i.size, i.bytes)) = some (some (.int .u8 0), 1, 1) := by kernel_rfl
theorem ret_bool {a b : Bool} (h : a = b) : Ending.returned (.bool a) = .returned (.bool b) := by rw [h]
end Go.Proofs.YtijimcjmpeakpaaGreat

namespace Go.Proofs
abbrev Tryz.muLink : Go.Conc.Locks.MuLink := { lock := 61, unlock := 62, ilock := 88, iunlock := 89, lockSlow := 132, unlockSlow := 135, disable := 128, enable := 130, acquire := 131, relMerge := 133, cas32 := 129, add32 := 134, tMutex := 55, tIMutex := 53, tPMutex := 167, tPIMutex := 200, tPI32 := 202, tUP := 204, tNoCopy := 50, tU32 := 51 }
theorem Tryz.muLib : Go.Conc.Locks.MuLib Tryz.prog Tryz.muLink :=
  ⟨Tryz.func61, Tryz.func62, Tryz.func88, Tryz.func89, Tryz.func128, Tryz.func130, Tryz.func131, Tryz.func133, Tryz.func129, Tryz.func134, Tryz.underlying53, Tryz.runUnderlying53, Tryz.sizeOf53, Tryz.isAgg53, Tryz.zeroValue53, Tryz.underlying55, Tryz.runUnderlying55, Tryz.sizeOf55, Tryz.isAgg55, Tryz.zeroValue55, Tryz.underlying167, Tryz.runUnderlying167, Tryz.sizeOf167, Tryz.isAgg167, Tryz.zeroValue167, Tryz.underlying200, Tryz.runUnderlying200, Tryz.sizeOf200, Tryz.isAgg200, Tryz.zeroValue200, Tryz.underlying202, Tryz.runUnderlying202, Tryz.sizeOf202, Tryz.isAgg202, Tryz.zeroValue202, Tryz.underlying204, Tryz.runUnderlying204, Tryz.sizeOf204, Tryz.isAgg204, Tryz.zeroValue204, Tryz.underlying50, Tryz.runUnderlying50, Tryz.sizeOf50, Tryz.isAgg50, Tryz.zeroValue50, Tryz.underlying21, Tryz.runUnderlying21, Tryz.sizeOf21, Tryz.isAgg21, Tryz.zeroValue21, (by kernel_rfl)⟩
theorem Tryz.muData : Go.Conc.Locks.MuData Tryz.prog Tryz.muLink := ⟨Tryz.underlying51, by kernel_rfl, by kernel_rfl, by kernel_rfl, by kernel_rfl, by kernel_rfl⟩
end Go.Proofs
