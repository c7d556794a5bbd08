import Derived.Test.YtjkoambfecmglaaVYhz
namespace Go.Proofs.Ytjkoambfecmglaa
open Go.RowKit
set_option linter.unusedVariables false
set_option linter.unusedSimpArgs false
set_option maxRecDepth 100000
/-- one was played: the bytes -/
theorem Wm.play {W : World} {B P m oc n nc pc dc : Nat} {oa na pa wa : Option Addr} {bs : List Nat} {pl : List Bool} {ow : List Nat} (h : Wm W B P oa m oc na n nc bs pa pc pl wa dc ow) {V : World} {bs' : List Nat} (ho : V.ownsRow B 5 1 (.slice na n nc) n (bs'.map bv)) (hg : W.grownBy V (Value.slice na n nc).ownBlock) (hn : bs'.length = n) (hlt : ∀ x ∈ bs', x < 256) : Wm V B P oa m oc na n nc bs' pa pc pl wa dc ow where
  blk := (hg.block P (block_lt h.blk) (fun e => h.apN e.symm)).trans h.blk
  hP := h.hP
  now := ho
  bsn := hn
  blt := hlt
  pld := owns_far h.pld hg (fun g e e2 => h.apNP g e2.symm e)
  owd := ⟨fun hl => by
    obtain ⟨b, off, e, hc⟩ := h.owd.at_ hl
    exact ⟨b, off, e, fun k hk => hg.cell (hc k hk) (fun e2 => (h.apW _ e).2.1 e2.symm)⟩⟩
  odc := h.odc
  apN := h.apN
  apP := h.apP
  apNP := h.apNP
  apW a e := by
    obtain ⟨h1, h2, h3, h4⟩ := h.apW a e
    exact ⟨h1, h2, h3, Nat.lt_of_lt_of_le h4 hg.size⟩
  apO := h.apO
/-- .. that it was -/
theorem Wm.mark {W : World} {B P m oc n nc pc dc gp k : Nat} {oa na wa : Option Addr} {bs : List Nat} {pl : List Bool} {ow : List Nat} (h : Wm W B P oa m oc na n nc bs (some ⟨gp, 0, none⟩) pc pl wa dc ow) (hk : k < m) : Wm (W.setCell ⟨gp, k, none⟩ (.bool true)) B P oa m oc na n nc bs (some ⟨gp, 0, none⟩) pc (pl.set k true) wa dc ow where
  blk := (Below.heap_setCell _ _ _ _ (fun e => h.apP (by rw [e]; rfl))).trans h.blk
  hP := h.hP
  now := owns_same h.now fun g e => Below.heap_setCell _ _ _ _ (fun e2 => h.apNP g e (by rw [e2]; rfl))
  bsn := h.bsn
  blt := h.blt
  pld := by
    have := own_set h.pld (.bool true) hk
    rwa [← List.map_set] at this
  owd := ⟨fun hl => by
    obtain ⟨b, off, e, hc⟩ := h.owd.at_ hl
    refine ⟨b, off, e, fun k hk => ?_⟩
    rw [World.cell?_of_block (Below.heap_setCell _ _ _ _ (fun e2 => (h.apW _ e).2.2.1 (by rw [show b = gp from e2]; rfl)))]
    exact hc k hk⟩
  odc := h.odc
  apN := h.apN
  apP := h.apP
  apNP := h.apNP
  apW a e := by
    obtain ⟨h1, h2, h3, h4⟩ := h.apW a e
    exact ⟨h1, h2, h3, by rw [World.size_setCell]; exact h4⟩
  apO := h.apO
/-- the foremost is owed no more -/
theorem Wm.pop {W : World} {B P m oc n nc pc dc k : Nat} {oa na pa wa wa' : Option Addr} {bs : List Nat} {pl : List Bool} {t : List Nat} (h : Wm W B P oa m oc na n nc bs pa pc pl wa dc (k :: t)) (hw : wa' = if dc = 1 then wa else Option.map (fun x => x.add 1) wa) : Wm (W.setCell ⟨P, 3, none⟩ (.slice wa' t.length (dc - 1))) B P oa m oc na n nc bs pa pc pl wa' (dc - 1) t where
  blk := by
    have := heap_setCell_same W P 3 _ 61 (.slice wa' t.length (dc - 1)) h.blk
    exact this
  hP := h.hP
  now := owns_same h.now fun g e => Below.heap_setCell _ _ _ _ (fun e2 => h.apN (by rw [e, e2]))
  bsn := h.bsn
  blt := h.blt
  pld := owns_same h.pld fun g e => Below.heap_setCell _ _ _ _ (fun e2 => h.apP (by rw [e, e2]))
  owd := ⟨fun hl => by
    have h1 := h.odc
    have h2 : t ≠ [] := by rintro rfl; simp at hl
    have h3 : 0 < t.length := List.length_pos_iff.2 h2
    simp only [List.length_cons] at h1
    obtain ⟨b, off, e, hc⟩ := h.owd.at_ (by simp)
    refine ⟨b, off + 1, by rw [hw, if_neg (by omega), e]; show some ((⟨b, off, none⟩ : Addr).add 1) = _; rw [add_plain], fun j hj => ?_⟩
    rw [World.cell?_of_block (Below.heap_setCell _ _ _ _ (fun e2 => (h.apW _ e).1 e2))]
    have := hc (j + 1) (by simpa using hj)
    rw [show off + 1 + j = off + (j + 1) by omega, this]
    simp⟩
  odc := by have h1 := h.odc; simp only [List.length_cons] at h1; omega
  apN := h.apN
  apP := h.apP
  apNP := h.apNP
  apW a e := by
    rw [hw] at e
    have : ∃ a', wa = some a' ∧ a'.block = a.block := by
      split at e
      · exact ⟨a, e, rfl⟩
      · cases wa with
        | none => cases e
        | some a' =>
          cases e
          refine ⟨a', rfl, ?_⟩
          unfold Addr.add; split <;> rfl
    obtain ⟨a', e1, e2⟩ := this
    obtain ⟨h1, h2, h3, h4⟩ := h.apW a' e1
    rw [e2] at h1 h2 h3 h4
    exact ⟨h1, h2, h3, by rw [World.size_setCell]; exact h4⟩
  apO := h.apO
/-- how many are owed, read off the memory -/
def lenAt (W : World) (P : Nat) : Nat := match W.cell? ⟨P, 3, none⟩ with
  | some (.slice _ n _) => n
  | _ => 0
theorem Wm.len {W : World} {B P m oc n nc pc dc : Nat} {oa na pa wa : Option Addr} {bs : List Nat} {pl : List Bool} {ow : List Nat} (h : Wm W B P oa m oc na n nc bs pa pc pl wa dc ow) : lenAt W P = ow.length := by unfold lenAt; rw [h.c3]
end Go.Proofs.Ytjkoambfecmglaa
