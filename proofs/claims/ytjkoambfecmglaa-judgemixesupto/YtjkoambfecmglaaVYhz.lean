import Derived.Test.YtjkoambfecmglaaVYgz
import Derived.Test.YtjkoambfecmglaaVPz
namespace Go.Proofs.Ytjkoambfecmglaa
open Go.RowKit
set_option linter.unusedVariables false
set_option linter.unusedSimpArgs false
set_option maxRecDepth 100000
/-- a walk in memory -/
structure Wm (W : World) (B P : Nat) (oa : Option Addr) (m oc : Nat) (na : Option Addr) (n nc : Nat) (bs : List Nat) (pa : Option Addr) (pc : Nat) (pl : List Bool) (wa : Option Addr) (dc : Nat) (ow : List Nat) : Prop where
  blk : W.heap[P]? = some (.cells #[.slice oa m oc, .slice na n nc, .slice pa m pc, .slice wa ow.length dc] 61 (0, 0))
  hP : B ≤ P
  now : W.ownsRow B 5 1 (.slice na n nc) n (bs.map bv)
  bsn : bs.length = n
  blt : ∀ x ∈ bs, x < 256
  pld : W.ownsRow B 4 1 (.slice pa m pc) m (pl.map Value.bool)
  owd : ZRow W wa (ow.map (fun k : Nat => (k : Int)))
  odc : ow.length ≤ dc
  apN : (Value.slice na n nc).ownBlock ≠ some P
  apP : (Value.slice pa m pc).ownBlock ≠ some P
  apNP : ∀ g, (Value.slice na n nc).ownBlock = some g → (Value.slice pa m pc).ownBlock ≠ some g
  apW : ∀ a, wa = some a → a.block ≠ P ∧ (Value.slice na n nc).ownBlock ≠ some a.block ∧ (Value.slice pa m pc).ownBlock ≠ some a.block ∧ a.block < W.heap.size
  apO : 0 < m → ∀ a, oa = some a → a.block < B
theorem Wm.later {W V : World} {B P m oc n nc pc dc : Nat} {oa na pa wa : Option Addr} {bs : List Nat} {pl : List Bool} {ow : List Nat} (h : Wm W B P oa m oc na n nc bs pa pc pl wa dc ow) (hb : Below W.heap.size W V) : Wm V B P oa m oc na n nc bs pa pc pl wa dc ow where
  blk := (hb.block _ (block_lt h.blk)).trans h.blk
  hP := h.hP
  now := owns_same h.now fun g e => hb.block _ (owns_in h.now e).2
  bsn := h.bsn
  blt := h.blt
  pld := owns_same h.pld fun g e => hb.block _ (owns_in h.pld e).2
  owd := h.owd.later hb
  odc := h.odc
  apN := h.apN
  apP := h.apP
  apNP := h.apNP
  apW a e := by
    obtain ⟨h1, h2, h3, h4⟩ := h.apW a e
    exact ⟨h1, h2, h3, Nat.lt_of_lt_of_le h4 hb.size⟩
  apO := h.apO
theorem Wm.c0 {W : World} {B P m oc n nc pc dc : Nat} {oa na pa wa : Option Addr} {bs : List Nat} {pl : List Bool} {ow : List Nat} (h : Wm W B P oa m oc na n nc bs pa pc pl wa dc ow) : W.cell? ⟨P, 0, none⟩ = some (.slice oa m oc) := blk_at h.blk 0
theorem Wm.c1 {W : World} {B P m oc n nc pc dc : Nat} {oa na pa wa : Option Addr} {bs : List Nat} {pl : List Bool} {ow : List Nat} (h : Wm W B P oa m oc na n nc bs pa pc pl wa dc ow) : W.cell? ⟨P, 1, none⟩ = some (.slice na n nc) := blk_at h.blk 1
theorem Wm.c2 {W : World} {B P m oc n nc pc dc : Nat} {oa na pa wa : Option Addr} {bs : List Nat} {pl : List Bool} {ow : List Nat} (h : Wm W B P oa m oc na n nc bs pa pc pl wa dc ow) : W.cell? ⟨P, 2, none⟩ = some (.slice pa m pc) := blk_at h.blk 2
theorem Wm.c3 {W : World} {B P m oc n nc pc dc : Nat} {oa na pa wa : Option Addr} {bs : List Nat} {pl : List Bool} {ow : List Nat} (h : Wm W B P oa m oc na n nc bs pa pc pl wa dc ow) : W.cell? ⟨P, 3, none⟩ = some (.slice wa ow.length dc) := blk_at h.blk 3
theorem Wm.f3 {W : World} {B P m oc n nc pc dc : Nat} {oa na pa wa : Option Addr} {bs : List Nat} {pl : List Bool} {ow : List Nat} (h : Wm W B P oa m oc na n nc bs pa pc pl wa dc ow) : W.frozen? ⟨P, 3, none⟩ = false := blk_free h.blk 3
theorem Wm.nnc {W : World} {B P m oc n nc pc dc : Nat} {oa na pa wa : Option Addr} {bs : List Nat} {pl : List Bool} {ow : List Nat} (h : Wm W B P oa m oc na n nc bs pa pc pl wa dc ow) : n ≤ nc := by
  rcases h.now.2 with ⟨h0, h1⟩ | ⟨_, _, _, hv, _, _, h1, _⟩
  · omega
  · simp at hv; omega
theorem Wm.brow {W : World} {B P m oc n nc pc dc : Nat} {oa na pa wa : Option Addr} {bs : List Nat} {pl : List Bool} {ow : List Nat} (h : Wm W B P oa m oc na n nc bs pa pc pl wa dc ow) (hn : n ≤ 4096) : BRow W na nc bs := by
  have h1 := h.now
  obtain rfl := h.bsn
  obtain ⟨ao, cap, e, hb⟩ := BRow.own h1 h.blt (by omega)
  cases e
  exact hb
/-- the row of what was played -/
theorem Wm.row {W : World} {B P m oc n nc pc dc : Nat} {oa na pa wa : Option Addr} {bs : List Nat} {pl : List Bool} {ow : List Nat} (h : Wm W B P oa m oc na n nc bs pa pc pl wa dc ow) {k : Nat} (hk : k < m) : ∃ gp, pa = some ⟨gp, 0, none⟩ ∧ W.cell? ⟨gp, k, none⟩ = (pl.map Value.bool)[k]? ∧ W.frozen? ⟨gp, k, none⟩ = false := by
  obtain ⟨gp, e, _, hc, hf⟩ := own_some h.pld (by omega)
  exact ⟨gp, e, hc k hk, hf k⟩
theorem ops_at {W : World} {oa : Option Addr} {l : List Opv} (h : OpsR W oa l) {k : Nat} {q : Opv} (hq : l[k]? = some q) : ∃ ob oo, oa = some ⟨ob, oo, none⟩ ∧ ∀ j v, q.cells[j]? = some v → W.cell? ⟨ob, oo + k * 7 + j, none⟩ = some v := by
  have hkl := (List.getElem?_eq_some_iff.1 hq).1
  obtain ⟨ob, oo, e, hc⟩ := h.at_ (by rintro rfl; simp at hkl)
  refine ⟨ob, oo, e, fun j v hv => hc k hkl j v ?_⟩
  rw [(List.getElem?_eq_some_iff.1 hq).2]; exact hv
/-- what lacks, over a walk -/
theorem lacks_wm {W : World} {B P m oc n nc pc dc : Nat} {oa na pa wa : Option Addr} {bs : List Nat} {pl : List Bool} {ow : List Nat} {l : List Opv} {dn : List Int} (h : Wm W B P oa m oc na n nc bs pa pc pl wa dc ow) (hS : WkS l dn pl ow) (hh : HdN dn ow) (hO : OpsR W oa l) (hm : l.length = m) (p : Opv) :
    ∃ r : Bool, (∀ U, Below W.heap.size W U → Calls Try.prog 47 #[.pointer (some ⟨P, 0, none⟩), .agg p.cells] U fun e w' => e = .returned (.bool r) ∧ Below U.heap.size U w') ∧ (r = false ↔ Nxt l dn p l.length) := by
  cases ow with
  | nil => exact ⟨false, fun U hU => lacks_none (h.later hU).c3 p, by simp [hS.nxt_nil p]⟩
  | cons k t =>
    obtain ⟨q, hq, hqa⟩ := hS.val k (by simp)
    refine ⟨q.bef p, fun U hU => ?_, ?_⟩
    · obtain ⟨wb, wo, rfl, hc⟩ := (h.later hU).owd.at_ (by simp)
      obtain ⟨ob, oo, rfl, hco⟩ := ops_at (hO.later hU) hq
      have hk0 := hc 0 (by simp)
      simp at hk0
      exact lacks_some p q (h.later hU).c0 (h.later hU).c3 (by simp) hk0 (by rw [← hm]; exact (List.getElem?_eq_some_iff.1 hq).1) hco
    · cases hb : q.bef p with
      | false => simp [hS.nxt_cons hq hb]
      | true => simp [hS.nxt_not hh hq hb]
end Go.Proofs.Ytjkoambfecmglaa
