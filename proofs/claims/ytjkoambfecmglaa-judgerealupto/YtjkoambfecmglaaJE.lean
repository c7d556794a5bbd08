import Derived.Test.YtjkoambfecmglaaVYgz
import Derived.Test.YtjkoambfecmglaaJF
namespace Go.Proofs.Ytjkoambfecmglaa
open Go.RowKit
set_option linter.unusedVariables false
set_option linter.unusedSimpArgs false
set_option maxRecDepth 100000
/-- a walk in memory -/
structure Wm (W : World) (B P : Nat) (oa : Option Addr) (m oc : Nat) (na : Option Addr) (n nc : Nat) (bs : List Nat) (pa : Option Addr) (pc : Nat) (pl : List Bool) (wa : Option Addr) (dc : Nat) (ow : List Nat) : Prop where
  blk : W.heap[P]? = some (.cells #[.slice oa m oc, .slice na n nc, .slice pa m pc, .slice wa ow.length dc] 61 (0, 0))
  hP : B ≤ P
  now : W.ownsRow B 5 1 (.slice na n nc) n (bs.map bv)
  bsn : bs.length = n
  blt : ∀ x ∈ bs, x < 256
  pld : W.ownsRow B 4 1 (.slice pa m pc) m (pl.map Value.bool)
  owd : ZRow W wa (ow.map (fun k : Nat => (k : Int)))
  odc : ow.length ≤ dc
  apN : (Value.slice na n nc).ownBlock ≠ some P
  apP : (Value.slice pa m pc).ownBlock ≠ some P
  apNP : ∀ g, (Value.slice na n nc).ownBlock = some g → (Value.slice pa m pc).ownBlock ≠ some g
  apW : ∀ a, wa = some a → a.block ≠ P ∧ (Value.slice na n nc).ownBlock ≠ some a.block ∧ (Value.slice pa m pc).ownBlock ≠ some a.block ∧ a.block < W.heap.size
  apO : 0 < m → ∀ a, oa = some a → a.block < B
theorem Wm.later {W V : World} {B P m oc n nc pc dc : Nat} {oa na pa wa : Option Addr} {bs : List Nat} {pl : List Bool} {ow : List Nat} (h : Wm W B P oa m oc na n nc bs pa pc pl wa dc ow) (hb : Below W.heap.size W V) : Wm V B P oa m oc na n nc bs pa pc pl wa dc ow where
  blk := (hb.block _ (block_lt h.blk)).trans h.blk
  hP := h.hP
  now := owns_same h.now fun g e => hb.block _ (owns_in h.now e).2
  bsn := h.bsn
  blt := h.blt
  pld := owns_same h.pld fun g e => hb.block _ (owns_in h.pld e).2
  owd := h.owd.later hb
  odc := h.odc
  apN := h.apN
  apP := h.apP
  apNP := h.apNP
  apW a e := by
    obtain ⟨h1, h2, h3, h4⟩ := h.apW a e
    exact ⟨h1, h2, h3, Nat.lt_of_lt_of_le h4 hb.size⟩
  apO := h.apO
theorem Wm.c0 {W : World} {B P m oc n nc pc dc : Nat} {oa na pa wa : Option Addr} {bs : List Nat} {pl : List Bool} {ow : List Nat} (h : Wm W B P oa m oc na n nc bs pa pc pl wa dc ow) : W.cell? ⟨P, 0, none⟩ = some (.slice oa m oc) := blk_at h.blk 0
theorem Wm.c1 {W : World} {B P m oc n nc pc dc : Nat} {oa na pa wa : Option Addr} {bs : List Nat} {pl : List Bool} {ow : List Nat} (h : Wm W B P oa m oc na n nc bs pa pc pl wa dc ow) : W.cell? ⟨P, 1, none⟩ = some (.slice na n nc) := blk_at h.blk 1
theorem Wm.c2 {W : World} {B P m oc n nc pc dc : Nat} {oa na pa wa : Option Addr} {bs : List Nat} {pl : List Bool} {ow : List Nat} (h : Wm W B P oa m oc na n nc bs pa pc pl wa dc ow) : W.cell? ⟨P, 2, none⟩ = some (.slice pa m pc) := blk_at h.blk 2
theorem Wm.c3 {W : World} {B P m oc n nc pc dc : Nat} {oa na pa wa : Option Addr} {bs : List Nat} {pl : List Bool} {ow : List Nat} (h : Wm W B P oa m oc na n nc bs pa pc pl wa dc ow) : W.cell? ⟨P, 3, none⟩ = some (.slice wa ow.length dc) := blk_at h.blk 3
theorem Wm.f3 {W : World} {B P m oc n nc pc dc : Nat} {oa na pa wa : Option Addr} {bs : List Nat} {pl : List Bool} {ow : List Nat} (h : Wm W B P oa m oc na n nc bs pa pc pl wa dc ow) : W.frozen? ⟨P, 3, none⟩ = false := blk_free h.blk 3
theorem Wm.nnc {W : World} {B P m oc n nc pc dc : Nat} {oa na pa wa : Option Addr} {bs : List Nat} {pl : List Bool} {ow : List Nat} (h : Wm W B P oa m oc na n nc bs pa pc pl wa dc ow) : n ≤ nc := by
  rcases h.now.2 with ⟨h0, h1⟩ | ⟨_, _, _, hv, _, _, h1, _⟩
  · omega
  · simp at hv; omega
theorem Wm.brow {W : World} {B P m oc n nc pc dc : Nat} {oa na pa wa : Option Addr} {bs : List Nat} {pl : List Bool} {ow : List Nat} (h : Wm W B P oa m oc na n nc bs pa pc pl wa dc ow) (hn : n ≤ 4096) : BRow W na nc bs := by
  have h1 := h.now
  obtain rfl := h.bsn
  obtain ⟨ao, cap, e, hb⟩ := BRow.own h1 h.blt (by omega)
  cases e
  exact hb
/-- the row of what was played -/
theorem Wm.row {W : World} {B P m oc n nc pc dc : Nat} {oa na pa wa : Option Addr} {bs : List Nat} {pl : List Bool} {ow : List Nat} (h : Wm W B P oa m oc na n nc bs pa pc pl wa dc ow) {k : Nat} (hk : k < m) : ∃ gp, pa = some ⟨gp, 0, none⟩ ∧ W.cell? ⟨gp, k, none⟩ = (pl.map Value.bool)[k]? ∧ W.frozen? ⟨gp, k, none⟩ = false := by
  obtain ⟨gp, e, _, hc, hf⟩ := own_some h.pld (by omega)
  exact ⟨gp, e, hc k hk, hf k⟩
theorem ops_at {W : World} {oa : Option Addr} {l : List Opv} (h : OpsR W oa l) {k : Nat} {q : Opv} (hq : l[k]? = some q) : ∃ ob oo, oa = some ⟨ob, oo, none⟩ ∧ ∀ j v, q.cells[j]? = some v → W.cell? ⟨ob, oo + k * 7 + j, none⟩ = some v := by
  have hkl := (List.getElem?_eq_some_iff.1 hq).1
  obtain ⟨ob, oo, e, hc⟩ := h.at_ (by rintro rfl; simp at hkl)
  refine ⟨ob, oo, e, fun j v hv => hc k hkl j v ?_⟩
  rw [(List.getElem?_eq_some_iff.1 hq).2]; exact hv
/-- what lacks, over a walk -/
theorem lacks_wm {W : World} {B P m oc n nc pc dc : Nat} {oa na pa wa : Option Addr} {bs : List Nat} {pl : List Bool} {ow : List Nat} {l : List Opv} {dn : List Int} (h : Wm W B P oa m oc na n nc bs pa pc pl wa dc ow) (hS : WkS l dn pl ow) (hh : HdN dn ow) (hO : OpsR W oa l) (hm : l.length = m) (p : Opv) :
    ∃ r : Bool, (∀ U, Below W.heap.size W U → Calls Try.prog 47 #[.pointer (some ⟨P, 0, none⟩), .agg p.cells] U fun e w' => e = .returned (.bool r) ∧ Below U.heap.size U w') ∧ (r = false ↔ Nxt l dn p l.length) := by
  cases ow with
  | nil => exact ⟨false, fun U hU => lacks_none (h.later hU).c3 p, by simp [hS.nxt_nil p]⟩
  | cons k t =>
    obtain ⟨q, hq, hqa⟩ := hS.val k (by simp)
    refine ⟨q.bef p, fun U hU => ?_, ?_⟩
    · obtain ⟨wb, wo, rfl, hc⟩ := (h.later hU).owd.at_ (by simp)
      obtain ⟨ob, oo, rfl, hco⟩ := ops_at (hO.later hU) hq
      have hk0 := hc 0 (by simp)
      simp at hk0
      exact lacks_some p q (h.later hU).c0 (h.later hU).c3 (by simp) hk0 (by rw [← hm]; exact (List.getElem?_eq_some_iff.1 hq).1) hco
    · cases hb : q.bef p with
      | false => simp [hS.nxt_cons hq hb]
      | true => simp [hS.nxt_not hh hq hb]
end Go.Proofs.Ytjkoambfecmglaa

namespace Go.Proofs.Ytjkoambfecmglaa
open Go.RowKit
set_option linter.unusedVariables false
set_option linter.unusedSimpArgs false
set_option maxRecDepth 100000
/-- one was played: the bytes -/
theorem Wm.play {W : World} {B P m oc n nc pc dc : Nat} {oa na pa wa : Option Addr} {bs : List Nat} {pl : List Bool} {ow : List Nat} (h : Wm W B P oa m oc na n nc bs pa pc pl wa dc ow) {V : World} {bs' : List Nat} (ho : V.ownsRow B 5 1 (.slice na n nc) n (bs'.map bv)) (hg : W.grownBy V (Value.slice na n nc).ownBlock) (hn : bs'.length = n) (hlt : ∀ x ∈ bs', x < 256) : Wm V B P oa m oc na n nc bs' pa pc pl wa dc ow where
  blk := (hg.block P (block_lt h.blk) (fun e => h.apN e.symm)).trans h.blk
  hP := h.hP
  now := ho
  bsn := hn
  blt := hlt
  pld := owns_far h.pld hg (fun g e e2 => h.apNP g e2.symm e)
  owd := ⟨fun hl => by
    obtain ⟨b, off, e, hc⟩ := h.owd.at_ hl
    exact ⟨b, off, e, fun k hk => hg.cell (hc k hk) (fun e2 => (h.apW _ e).2.1 e2.symm)⟩⟩
  odc := h.odc
  apN := h.apN
  apP := h.apP
  apNP := h.apNP
  apW a e := by
    obtain ⟨h1, h2, h3, h4⟩ := h.apW a e
    exact ⟨h1, h2, h3, Nat.lt_of_lt_of_le h4 hg.size⟩
  apO := h.apO
/-- .. that it was -/
theorem Wm.mark {W : World} {B P m oc n nc pc dc gp k : Nat} {oa na wa : Option Addr} {bs : List Nat} {pl : List Bool} {ow : List Nat} (h : Wm W B P oa m oc na n nc bs (some ⟨gp, 0, none⟩) pc pl wa dc ow) (hk : k < m) : Wm (W.setCell ⟨gp, k, none⟩ (.bool true)) B P oa m oc na n nc bs (some ⟨gp, 0, none⟩) pc (pl.set k true) wa dc ow where
  blk := (Below.heap_setCell _ _ _ _ (fun e => h.apP (by rw [e]; rfl))).trans h.blk
  hP := h.hP
  now := owns_same h.now fun g e => Below.heap_setCell _ _ _ _ (fun e2 => h.apNP g e (by rw [e2]; rfl))
  bsn := h.bsn
  blt := h.blt
  pld := by
    have := own_set h.pld (.bool true) hk
    rwa [← List.map_set] at this
  owd := ⟨fun hl => by
    obtain ⟨b, off, e, hc⟩ := h.owd.at_ hl
    refine ⟨b, off, e, fun k hk => ?_⟩
    rw [World.cell?_of_block (Below.heap_setCell _ _ _ _ (fun e2 => (h.apW _ e).2.2.1 (by rw [show b = gp from e2]; rfl)))]
    exact hc k hk⟩
  odc := h.odc
  apN := h.apN
  apP := h.apP
  apNP := h.apNP
  apW a e := by
    obtain ⟨h1, h2, h3, h4⟩ := h.apW a e
    exact ⟨h1, h2, h3, by rw [World.size_setCell]; exact h4⟩
  apO := h.apO
/-- the foremost is owed no more -/
theorem Wm.pop {W : World} {B P m oc n nc pc dc k : Nat} {oa na pa wa wa' : Option Addr} {bs : List Nat} {pl : List Bool} {t : List Nat} (h : Wm W B P oa m oc na n nc bs pa pc pl wa dc (k :: t)) (hw : wa' = if dc = 1 then wa else Option.map (fun x => x.add 1) wa) : Wm (W.setCell ⟨P, 3, none⟩ (.slice wa' t.length (dc - 1))) B P oa m oc na n nc bs pa pc pl wa' (dc - 1) t where
  blk := by
    have := heap_setCell_same W P 3 _ 61 (.slice wa' t.length (dc - 1)) h.blk
    exact this
  hP := h.hP
  now := owns_same h.now fun g e => Below.heap_setCell _ _ _ _ (fun e2 => h.apN (by rw [e, e2]))
  bsn := h.bsn
  blt := h.blt
  pld := owns_same h.pld fun g e => Below.heap_setCell _ _ _ _ (fun e2 => h.apP (by rw [e, e2]))
  owd := ⟨fun hl => by
    have h1 := h.odc
    have h2 : t ≠ [] := by rintro rfl; simp at hl
    have h3 : 0 < t.length := List.length_pos_iff.2 h2
    simp only [List.length_cons] at h1
    obtain ⟨b, off, e, hc⟩ := h.owd.at_ (by simp)
    refine ⟨b, off + 1, by rw [hw, if_neg (by omega), e]; show some ((⟨b, off, none⟩ : Addr).add 1) = _; rw [add_plain], fun j hj => ?_⟩
    rw [World.cell?_of_block (Below.heap_setCell _ _ _ _ (fun e2 => (h.apW _ e).1 e2))]
    have := hc (j + 1) (by simpa using hj)
    rw [show off + 1 + j = off + (j + 1) by omega, this]
    simp⟩
  odc := by have h1 := h.odc; simp only [List.length_cons] at h1; omega
  apN := h.apN
  apP := h.apP
  apNP := h.apNP
  apW a e := by
    rw [hw] at e
    have : ∃ a', wa = some a' ∧ a'.block = a.block := by
      split at e
      · exact ⟨a, e, rfl⟩
      · cases wa with
        | none => cases e
        | some a' =>
          cases e
          refine ⟨a', rfl, ?_⟩
          unfold Addr.add; split <;> rfl
    obtain ⟨a', e1, e2⟩ := this
    obtain ⟨h1, h2, h3, h4⟩ := h.apW a' e1
    rw [e2] at h1 h2 h3 h4
    exact ⟨h1, h2, h3, by rw [World.size_setCell]; exact h4⟩
  apO := h.apO
/-- how many are owed, read off the memory -/
def lenAt (W : World) (P : Nat) : Nat := match W.cell? ⟨P, 3, none⟩ with
  | some (.slice _ n _) => n
  | _ => 0
theorem Wm.len {W : World} {B P m oc n nc pc dc : Nat} {oa na pa wa : Option Addr} {bs : List Nat} {pl : List Bool} {ow : List Nat} (h : Wm W B P oa m oc na n nc bs pa pc pl wa dc ow) : lenAt W P = ow.length := by unfold lenAt; rw [h.c3]
end Go.Proofs.Ytjkoambfecmglaa
