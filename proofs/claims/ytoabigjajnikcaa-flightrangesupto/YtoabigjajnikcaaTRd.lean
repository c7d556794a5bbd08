import Derived.Test.YtoabigjajnikcaaTRb
namespace Go.Proofs.Ytoabigjajnikcaa.X
open Go.RowKit Go.Maps Go.Proofs.Ytoabigjajnikcaa
attribute [local go_sem] Oper.semAt_some
set_option linter.unusedVariables false
set_option linter.unusedSimpArgs false
set_option maxRecDepth 100000

section
variable {w w' W W' Z w1 : World} {n0 B s0 : Nat} {F F' G G' : Nat → Prop} {b bm p : Nat} {V V' U U' : Int → Value} {v v' vg v2 : Value} {S S1 S2 S' : St} {ys pre : List Pe}
theorem Rg.appended {tmp : Obj} (h : Rg Z n0 B s0 b bm p F G V v U S1 S2 vg pre) (x : Pe) (hx : Ok1 Z x) (hlo : B ≤ x.lo) (hap : ∀ y ∈ pre, y.hi ≤ x.lo) (hfp : ∀ g, fpT b bm F g ∨ fpR p v G g → ¬ (x.lo ≤ g ∧ g < x.hi))
    (hD : Z.heap[s0]? = some (.deferred (some []))) (hL : ∃ r, Z.heap[s0 + 1]? = some (.loop r)) (hBs : B ≠ s0 ∧ B ≠ s0 + 1)
    (hown' : w1.ownsRow B TEn 9 v2 (pre.length + 1) (pre.flatMap pcl ++ pcl x)) (hgrow : (Z.alloc tmp).grownBy w1 vg.ownBlock) (hat : v2.ownBlock = vg.ownBlock ∨ v2.ownBlock = some (Z.heap.size + 1)) :
    Boxed w1 B TEns vg ∧ Rg (w1.setCell ⟨B, 0, none⟩ v2) n0 B s0 b bm p F G V v U S1 S2 v2 (pre ++ [x]) ∧ KpR B (s0 + 1) b bm p Z (w1.setCell ⟨B, 0, none⟩ v2) ∧ Two2 s0 Z (w1.setCell ⟨B, 0, none⟩ v2) ∧ Below B Z (w1.setCell ⟨B, 0, none⟩ v2) := by
  obtain ⟨hv1, hv2, hr2, hk2, hb2⟩ := h.bx.appended (by decide) h.tl.row (Nat.le_of_lt h.bx.lt) (Nat.le_refl B) hown' hgrow
  have hoth : ∀ k, k < Z.heap.size → vg.ownBlock ≠ some k → k ≠ B → (w1.setCell ⟨B, 0, none⟩ v2).heap[k]? = Z.heap[k]? := fun k h1 h2 h3 => (Below.heap_setCell _ _ _ _ h3).trans ((hgrow.block k (by rw [World.size_alloc]; omega) (fun e => h2 e.symm)).trans (Below.heap_alloc _ _ _ h1))
  have hsz := hb2.size
  have hkept : KeptIn (fun g => g = B ∨ vg.ownBlock = some g) Z (w1.setCell ⟨B, 0, none⟩ v2) := ⟨hb2.os, hb2.tape, hb2.output, hsz, fun g hg hn => hoth g hg (fun e => hn (.inr e)) (fun e => hn (.inl e))⟩
  have htyp : ∀ k cs t, Z.heap[k]? = some (.cells cs t (0, 0)) → t ≠ TEn → vg.ownBlock ≠ some k := fun k cs t hc ht e => by
    obtain ⟨_, _, cs2, h9⟩ := row_typ h.tl.row k e
    rw [hc] at h9
    simp only [Option.some.injEq, Obj.cells.injEq] at h9
    exact ht h9.2.1
  have hfpl : ∀ g, fpT b bm F g ∨ fpR p v G g → g < Z.heap.size := fun g hg => hg.elim (fun e => h.p2.t.ltf g e) (fun e => h.p2.r.ltf g e)
  refine ⟨hv1, ⟨h.p2.keep hkept (fun g hg e => ?_), hv2, ⟨?_, fun y hy => ?_, fun y hy => ?_, ?_⟩, fun g hg => ⟨?_, ?_, (h.ap g hg).2.2⟩⟩, ⟨hsz, fun g hf => ⟨hoth g hf.1 (hf.2.2.2.1 vg h.bx) hf.2.2.1.1, ?_⟩⟩, ⟨?_, ?_⟩, hb2⟩
  · rcases e with e | e
    · exact (h.ap g hg).2.2.1 e
    · exact (h.ap g hg).2.1 e
  · rw [List.length_append, List.flatMap_append]
    simpa using hr2
  · have hok : Ok1 Z y := by
      rcases List.mem_append.1 hy with hy | hy
      · exact h.tl.ok y hy
      · simp at hy; subst hy; exact hx
    refine hok.same hsz (fun g cs _ _ hc => hoth g (block_lt hc) (htyp g cs _ hc (by decide)) (fun e => ?_))
    rw [e, show Z.heap[B]? = _ from h.bx] at hc
    simp only [Option.some.injEq, Obj.cells.injEq] at hc
    exact absurd hc.2.1 (by decide)
  · rcases List.mem_append.1 hy with hy | hy
    · exact h.tl.lo y hy
    · simp at hy; subst hy; exact hlo
  · rw [List.pairwise_append]
    exact ⟨h.tl.ap, by simp, fun y hy z hz => by simp at hz; subst hz; exact hap y hy⟩
  · rintro ⟨y, hy, h1, h2⟩
    rcases List.mem_append.1 hy with hy | hy
    · exact (h.ap g hg).1 ⟨y, hy, h1, h2⟩
    · simp at hy; subst hy; exact hfp g hg ⟨h1, h2⟩
  · rcases hat with e | e
    · rw [e]; exact (h.ap g hg).2.1
    · rw [e]; intro e2
      have := hfpl g hg
      simp at e2; omega
  · refine ⟨by have := hf.1; omega, ⟨by have := hf.2.1.1; omega, by have := hf.2.1.2; omega⟩, hf.2.2.1, fun u hu e => ?_, fun u hu => hf.2.2.2.2 u ?_⟩
    · have e2 : u = v2 := by
        have h3 := hv2
        unfold Boxed at h3 hu
        rw [hu] at h3
        simpa using h3
      rw [e2] at e
      rcases hat with h3 | h3
      · rw [h3] at e; exact hf.2.2.2.1 vg h.bx e
      · rw [h3] at e
        have := hf.1
        simp at e; omega
    · rw [← cell_block (hoth p h.p2.r.ltp (h.ap p (.inr (.inl rfl))).2.1 (h.ap p (.inr (.inl rfl))).2.2.1)]; exact hu
  · refine hoth s0 (Array.getElem?_eq_some_iff.1 hD).1 (fun e => ?_) (fun e => hBs.1 e.symm)
    obtain ⟨_, _, cs2, h9⟩ := row_typ h.tl.row _ e
    rw [hD] at h9; cases h9
  · obtain ⟨r, hr⟩ := hL
    refine hoth (s0 + 1) (Array.getElem?_eq_some_iff.1 hr).1 (fun e => ?_) (fun e => hBs.2 e.symm)
    obtain ⟨_, _, cs2, h9⟩ := row_typ h.tl.row _ e
    rw [hr] at h9; cases h9
theorem Rg.put (h : Rg W n0 B s0 b bm p F G V v U S1 S2 vg ys) {r r' : Loop} (hr : W.heap[s0 + 1]? = some (.loop r)) : Rg (W.putObj (s0 + 1) (.loop r')) n0 B s0 b bm p F G V v U S1 S2 vg ys := by
  have nc : ∀ cs t fr, W.heap[s0 + 1]? ≠ some (.cells cs t fr) := fun cs t fr h => by rw [hr] at h; cases h
  have hk : KeptIn (fun g => g = s0 + 1) W (W.putObj (s0 + 1) (.loop r')) := ⟨rfl, rfl, rfl, by simp, fun g _ hn => World.putObj_heap_other hn⟩
  exact ⟨h.p2.keep hk (fun g hg e => (h.ap g hg).2.2.2.2 e), (put_cells h.bx nc).trans h.bx, h.tl.same (by simp) (fun g cs t hc => put_cells hc nc), h.ap⟩
theorem br_want {aw : Option Addr} {cw nL k Bw : Nat} {L : List En} (ho : W.ownsRow Bw TEn 9 (.slice aw nL cw) nL (L.flatMap fun e => vcl (U e.id))) (hp : ∀ e ∈ L, PV W G (U e.id) e) (hG : ∀ g, G g → g < W.heap.size) (hn : L.length = nL) : BR W aw (L.take k) := by
  refine ⟨fun j e he => ?_⟩
  have he2 : L[j]? = some e := by
    rw [List.getElem?_take] at he
    split at he
    · exact he
    · simp at he
  have hj := (List.getElem?_eq_some_iff.1 he2).1
  have hm := List.mem_of_getElem? he2
  rcases ho.2 with ⟨_, h0⟩ | ⟨g, cap, cur, hv, hb, hg, _⟩
  · omega
  · simp only [Value.slice.injEq] at hv
    obtain ⟨rfl, _, rfl⟩ := hv
    refine ⟨g, 0, U e.id, rfl, block_lt hg, fun w' hb => ?_⟩
    rw [Nat.zero_add]
    exact ⟨own_range _ L (row_later ho hb) (fun x hx => vcl_len (hp x hx)) hn j e he2, G, (hp e hm).keep (KeptIn.ofBelow (S := fun _ => False) hb) hG (fun _ _ h => h)⟩
/-- at the ranging's begin: what is none of theirs, and what they refer to -/
theorem fine0 (h : P2 W n0 F G b bm p V v U S1 S2) {B : Nat} (hB : Boxed W B TEns (.slice none 0 0)) {g : Nat} (hg : g < W.heap.size) (hgB : g ≠ B) (hn : ¬ (fpT b bm F g ∨ fpR p v G g)) : FineR B (W.heap.size + 1) b bm p g W :=
  ⟨hg, ⟨hB.lt, h.r.ltp⟩, ⟨hgB, by omega, fun e => hn (.inl (.inl e)), fun e => hn (.inl (.inr (.inl e))), fun e => hn (.inr (.inl e))⟩, fun u hu => by
    unfold Boxed at hu hB
    rw [hu] at hB
    have : u = .slice none 0 0 := by simpa using hB
    rw [this]; simp [Value.ownBlock], fun u hu e => by
    rw [show W.cell? ⟨p, 2, none⟩ = some v from (h.r.c 2).trans rfl] at hu
    cases hu
    exact hn (.inr (.inr (.inl e)))⟩
theorem fineF (h : P2 W n0 F G b bm p V v U S1 S2) {B : Nat} (hB : Boxed W B TEns (.slice none 0 0)) (hBn : ¬ (fpT b bm F B ∨ fpR p v G B)) {g : Nat} (hg : F g) : FineR B (W.heap.size + 1) b bm p g W := by
  have hlt := h.t.lt g hg
  have hnr := h.ap g (.inr (.inr hg))
  refine ⟨hlt, ⟨hB.lt, h.r.ltp⟩, ⟨fun e => hBn (.inl (.inr (.inr (e ▸ hg)))), by omega, fun e => h.t.nb (e ▸ hg), fun e => h.t.nm (e ▸ hg), fun e => hnr (.inl e)⟩, fun u hu => ?_, fun u hu e => ?_⟩
  · unfold Boxed at hu hB
    rw [hu] at hB
    have : u = .slice none 0 0 := by simpa using hB
    rw [this]; simp [Value.ownBlock]
  · rw [show W.cell? ⟨p, 2, none⟩ = some v from (h.r.c 2).trans rfl] at hu
    cases hu
    exact hnr (.inr (.inl e))
theorem fineG (h : P2 W n0 F G b bm p V v U S1 S2) {B : Nat} (hB : Boxed W B TEns (.slice none 0 0)) (hBn : ¬ (fpT b bm F B ∨ fpR p v G B)) {g : Nat} (hg : G g) : FineR B (W.heap.size + 1) b bm p g W := by
  have hlt := h.r.lt g hg
  refine ⟨hlt, ⟨hB.lt, h.r.ltp⟩, ⟨fun e => hBn (.inr (.inr (.inr (e ▸ hg)))), by omega, fun e => h.ap g (.inl e) (.inr (.inr hg)), fun e => h.ap g (.inr (.inl e)) (.inr (.inr hg)), fun e => h.r.np (e ▸ hg)⟩, fun u hu => ?_, fun u hu e => ?_⟩
  · unfold Boxed at hu hB
    rw [hu] at hB
    have : u = .slice none 0 0 := by simpa using hB
    rw [this]; simp [Value.ownBlock]
  · rw [show W.cell? ⟨p, 2, none⟩ = some v from (h.r.c 2).trans rfl] at hu
    cases hu
    exact h.r.nv g e hg
theorem fineNew (h : P2 W n0 F G b bm p V v U S1 S2) {B : Nat} (hB : Boxed W B TEns (.slice none 0 0)) {X w1 : World} {k : Nat} (hb : Below W.heap.size W X) (hsz : W.heap.size + 2 ≤ X.heap.size) (hb2 : Below X.heap.size X w1) (hk : X.heap.size ≤ k) (hk2 : k < w1.heap.size) : FineR B (W.heap.size + 1) b bm p k w1 := by
  have hbb : Below W.heap.size W w1 := hb.trans (hb2.mono hb.size)
  have h1 := hB.lt
  have h2 := h.t.ltb
  have h3 := h.t.ltm
  have h4 := h.r.ltp
  have h5 := hbb.size
  refine ⟨hk2, ⟨by omega, by omega⟩, ⟨by omega, by omega, by omega, by omega, by omega⟩, fun u hu => ?_, fun u hu e => ?_⟩
  · unfold Boxed at hu hB
    rw [hbb.block B h1, hB] at hu
    have : u = .slice none 0 0 := by simpa using hu.symm
    rw [this]; simp [Value.ownBlock]
  · rw [cell_block (hbb.block p h4), show W.cell? ⟨p, 2, none⟩ = some v from (h.r.c 2).trans rfl] at hu
    cases hu
    have := h.r.ltf k (.inr (.inl e))
    omega
theorem fineLater {l g : Nat} (h : FineR B l b bm p g W) (hb : Below W.heap.size W W') : FineR B l b bm p g W' := fineR_same h hb.size (hb.block _ h.2.1.1) (hb.block _ h.2.1.2)
end
end Go.Proofs.Ytoabigjajnikcaa.X
