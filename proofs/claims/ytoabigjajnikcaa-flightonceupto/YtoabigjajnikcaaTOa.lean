import Derived.Test.YtoabigjajnikcaaTZh
namespace Go.Proofs.Ytoabigjajnikcaa.O
open Go.RowKit Go.Maps Go.Proofs.Ytoabigjajnikcaa
attribute [local go_sem] Oper.semAt_some
set_option linter.unusedVariables false
set_option linter.unusedSimpArgs false
set_option maxRecDepth 100000

abbrev TRq : TypeId := 44
abbrev TBo : TypeId := 4
abbrev TBy : TypeId := 42
abbrev Qx := Rq × Option Addr × Nat
abbrev Ax := List Nat × Option Addr × Nat
def qc (x : Qx) : List Value := rcl x.1 x.2.1 x.2.2
def ab (x : Ax) : Value := .slice x.2.1 x.1.length x.2.2
theorem qc_len (x : Qx) : (qc x).length = 6 := by simp [qc, rcl]
/-- the table, and the law's own four lists: numbers, requests, whether ready, answers -/
structure On (W : World) (F : Nat → Prop) (b bm : Nat) (V : Int → Value) (S : St) (vi vq vr va : Value) (D : Nat → Prop) (Is : List Int) (Qs : List Qx) (Rs : List Bool) (As : List Ax) : Prop where
  t : RT W F b bm V S
  i : W.ownsRow 0 TIn 1 vi Is.length (Is.map iv)
  q : W.ownsRow 0 TRq 6 vq Qs.length (Qs.flatMap qc)
  r : W.ownsRow 0 TBo 1 vr Rs.length (Rs.map .bool)
  a : W.ownsRow 0 TBy 1 va As.length (As.map ab)
  pd : ∀ x ∈ Qs, FRow W D x.2.1 x.2.2 x.1.data
  pa : ∀ x ∈ As, FRow W D x.2.1 x.2.2 x.1
  lt : ∀ g, D g → ∃ cs, W.heap[g]? = some (.cells cs 5 (0, 0))
  ap : ∀ g, fpT b bm F g → vi.ownBlock ≠ some g ∧ vq.ownBlock ≠ some g ∧ vr.ownBlock ≠ some g ∧ va.ownBlock ≠ some g ∧ ¬ D g
section
variable {W W' : World} {F F' : Nat → Prop} {b bm : Nat} {V V' : Int → Value} {S S' : St} {vi vq vr va vi' vq' vr' va' : Value} {D D' : Nat → Prop} {Is Is' : List Int} {Qs Qs' : List Qx} {Rs Rs' : List Bool} {As As' : List Ax}
/-- blocks of different types are different -/
theorem ty_ne {B B' T T' s s' n n' : Nat} {v v' : Value} {xs xs' : List Value} (h : W.ownsRow B T s v n xs) (h' : W.ownsRow B' T' s' v' n' xs') (hT : T ≠ T') {g : Nat} (hg : v.ownBlock = some g) : v'.ownBlock ≠ some g := fun hg' => by
  obtain ⟨_, _, cs, hc⟩ := row_typ h g hg
  obtain ⟨_, _, cs', hc'⟩ := row_typ h' g hg'
  rw [hc] at hc'
  simp only [Option.some.injEq, Obj.cells.injEq] at hc'
  exact hT hc'.2.1
theorem ty_ne5 {B T s n : Nat} {v : Value} {xs : List Value} (h : W.ownsRow B T s v n xs) (hT : T ≠ 5) {g : Nat} (hg : v.ownBlock = some g) (hd : ∃ cs, W.heap[g]? = some (.cells cs 5 (0, 0))) : False := by
  obtain ⟨_, _, cs, hc⟩ := row_typ h g hg
  obtain ⟨cs', hc'⟩ := hd
  rw [hc] at hc'
  simp only [Option.some.injEq, Obj.cells.injEq] at hc'
  exact hT hc'.2.1
theorem On.ltD (h : On W F b bm V S vi vq vr va D Is Qs Rs As) {g : Nat} (hg : D g) : g < W.heap.size := by obtain ⟨cs, hc⟩ := h.lt g hg; exact block_lt hc
theorem On.keep {X : Nat → Prop} (h : On W F b bm V S vi vq vr va D Is Qs Rs As) (hk : KeptIn X W W') (hT : ∀ g, fpT b bm F g → ¬ X g) (h1 : ∀ g, vi.ownBlock = some g → ¬ X g) (h2 : ∀ g, vq.ownBlock = some g → ¬ X g) (h3 : ∀ g, vr.ownBlock = some g → ¬ X g) (h4 : ∀ g, va.ownBlock = some g → ¬ X g) (h5 : ∀ g, D g → ¬ X g) : On W' F b bm V S vi vq vr va D Is Qs Rs As :=
  ⟨h.t.keep hk hT, row_same h.i (fun g hg => hk.block g (row_lt h.i g hg).1 (h1 g hg)), row_same h.q (fun g hg => hk.block g (row_lt h.q g hg).1 (h2 g hg)), row_same h.r (fun g hg => hk.block g (row_lt h.r g hg).1 (h3 g hg)), row_same h.a (fun g hg => hk.block g (row_lt h.a g hg).1 (h4 g hg)),
    fun x hx => (h.pd x hx).keep hk (fun g hg => h.ltD hg) h5, fun x hx => (h.pa x hx).keep hk (fun g hg => h.ltD hg) h5, fun g hg => by obtain ⟨cs, hc⟩ := h.lt g hg; exact ⟨cs, (hk.block g (block_lt hc) (h5 g hg)).trans hc⟩, h.ap⟩
theorem On.later (h : On W F b bm V S vi vq vr va D Is Qs Rs As) (hb : Below W.heap.size W W') : On W' F b bm V S vi vq vr va D Is Qs Rs As :=
  h.keep (X := fun _ => False) (KeptIn.ofBelow hb) (fun _ _ h => h) (fun _ _ h => h) (fun _ _ h => h) (fun _ _ h => h) (fun _ _ h => h) (fun _ _ h => h)
theorem On.actT (h : On W F b bm V S vi vq vr va D Is Qs Rs As) (a : TAct W W' F F' b bm V' S') : On W' F' b bm V' S' vi vq vr va D Is Qs Rs As := by
  have fpb : ∀ g, g = b ∨ g = bm → fpT b bm F g := fun g e => e.elim (fun e => .inl e) (fun e => .inr (.inl e))
  have h0 := h.keep (X := fun g => g = b ∨ g = bm) (W' := W') a.kept
  refine ⟨a.rt, row_same h.i (fun g hg => a.kept.block g (row_lt h.i g hg).1 (fun e => (h.ap g (fpb g e)).1 hg)), row_same h.q (fun g hg => a.kept.block g (row_lt h.q g hg).1 (fun e => (h.ap g (fpb g e)).2.1 hg)), row_same h.r (fun g hg => a.kept.block g (row_lt h.r g hg).1 (fun e => (h.ap g (fpb g e)).2.2.1 hg)), row_same h.a (fun g hg => a.kept.block g (row_lt h.a g hg).1 (fun e => (h.ap g (fpb g e)).2.2.2.1 hg)),
    fun x hx => (h.pd x hx).keep a.kept (fun g hg => h.ltD hg) (fun g hg e => (h.ap g (fpb g e)).2.2.2.2 hg), fun x hx => (h.pa x hx).keep a.kept (fun g hg => h.ltD hg) (fun g hg e => (h.ap g (fpb g e)).2.2.2.2 hg), fun g hg => ?_, fun g hg => ?_⟩
  · obtain ⟨cs, hc⟩ := h.lt g hg
    exact ⟨cs, (a.kept.block g (block_lt hc) (fun e => (h.ap g (fpb g e)).2.2.2.2 hg)).trans hc⟩
  · rcases hg with e | e | e
    · exact h.ap g (.inl e)
    · exact h.ap g (.inr (.inl e))
    · rcases a.new g e with e | e
      · exact h.ap g (.inr (.inr e))
      · exact ⟨fun k => by have := (row_lt h.i g k).1; omega, fun k => by have := (row_lt h.q g k).1; omega, fun k => by have := (row_lt h.r g k).1; omega, fun k => by have := (row_lt h.a g k).1; omega, fun k => by have := h.ltD k; omega⟩
/-- new bytes of one's own -/
theorem On.addD (h : On W F b bm V S vi vq vr va D Is Qs Rs As) (hb : Below W.heap.size W W') {v : Value} {B n : Nat} {xs : List Value} (ho : W'.ownsRow B 5 1 v n xs) (hB : W.heap.size ≤ B) : On W' F b bm V S vi vq vr va (fun g => D g ∨ v.ownBlock = some g) Is Qs Rs As := by
  have h' := h.later hb
  refine ⟨h'.t, h'.i, h'.q, h'.r, h'.a, fun x hx => (h'.pd x hx).mono (fun g hg => .inl hg), fun x hx => (h'.pa x hx).mono (fun g hg => .inl hg), fun g hg => ?_, fun g hg => ⟨(h'.ap g hg).1, (h'.ap g hg).2.1, (h'.ap g hg).2.2.1, (h'.ap g hg).2.2.2.1, fun e => ?_⟩⟩
  · rcases hg with hg | hg
    · exact h'.lt g hg
    · exact (row_typ ho g hg).2.2
  · rcases e with e | e
    · exact (h'.ap g hg).2.2.2.2 e
    · have h1 := (row_typ ho g e).2.1
      have h2 := h.t.ltf g hg
      omega
/-- a row that was grown, or written, or made anew: the others are as they were -/
theorem On.rowI (h : On W F b bm V S vi vq vr va D Is Qs Rs As) (hk : KeptIn (fun g => vi.ownBlock = some g) W W') (ho : W'.ownsRow 0 TIn 1 vi' Is'.length (Is'.map iv)) (hn : ∀ g, vi'.ownBlock = some g → vi.ownBlock = some g ∨ W.heap.size ≤ g) : On W' F b bm V S vi' vq vr va D Is' Qs Rs As := by
  have hT : ∀ g, fpT b bm F g → ¬ vi.ownBlock = some g := fun g hg => (h.ap g hg).1
  refine ⟨h.t.keep hk hT, ho, row_same h.q (fun g hg => hk.block g (row_lt h.q g hg).1 (ty_ne h.q h.i (by decide) hg)), row_same h.r (fun g hg => hk.block g (row_lt h.r g hg).1 (ty_ne h.r h.i (by decide) hg)), row_same h.a (fun g hg => hk.block g (row_lt h.a g hg).1 (ty_ne h.a h.i (by decide) hg)),
    fun x hx => (h.pd x hx).keep hk (fun g hg => h.ltD hg) (fun g hg e => ty_ne5 h.i (by decide) e (h.lt g hg)), fun x hx => (h.pa x hx).keep hk (fun g hg => h.ltD hg) (fun g hg e => ty_ne5 h.i (by decide) e (h.lt g hg)), fun g hg => ?_, fun g hg => ⟨fun e => ?_, (h.ap g hg).2⟩⟩
  · obtain ⟨cs, hc⟩ := h.lt g hg
    exact ⟨cs, (hk.block g (block_lt hc) (fun e => ty_ne5 h.i (by decide) e (h.lt g hg))).trans hc⟩
  · rcases hn g e with e | e
    · exact (h.ap g hg).1 e
    · have := h.t.ltf g hg; omega
theorem On.rowQ (h : On W F b bm V S vi vq vr va D Is Qs Rs As) (hk : KeptIn (fun g => vq.ownBlock = some g) W W') (ho : W'.ownsRow 0 TRq 6 vq' Qs'.length (Qs'.flatMap qc)) (hn : ∀ g, vq'.ownBlock = some g → vq.ownBlock = some g ∨ W.heap.size ≤ g) (hp : ∀ x ∈ Qs', FRow W D x.2.1 x.2.2 x.1.data) : On W' F b bm V S vi vq' vr va D Is Qs' Rs As := by
  have hT : ∀ g, fpT b bm F g → ¬ vq.ownBlock = some g := fun g hg => (h.ap g hg).2.1
  refine ⟨h.t.keep hk hT, row_same h.i (fun g hg => hk.block g (row_lt h.i g hg).1 (ty_ne h.i h.q (by decide) hg)), ho, row_same h.r (fun g hg => hk.block g (row_lt h.r g hg).1 (ty_ne h.r h.q (by decide) hg)), row_same h.a (fun g hg => hk.block g (row_lt h.a g hg).1 (ty_ne h.a h.q (by decide) hg)),
    fun x hx => (hp x hx).keep hk (fun g hg => h.ltD hg) (fun g hg e => ty_ne5 h.q (by decide) e (h.lt g hg)), fun x hx => (h.pa x hx).keep hk (fun g hg => h.ltD hg) (fun g hg e => ty_ne5 h.q (by decide) e (h.lt g hg)), fun g hg => ?_, fun g hg => ⟨(h.ap g hg).1, fun e => ?_, (h.ap g hg).2.2⟩⟩
  · obtain ⟨cs, hc⟩ := h.lt g hg
    exact ⟨cs, (hk.block g (block_lt hc) (fun e => ty_ne5 h.q (by decide) e (h.lt g hg))).trans hc⟩
  · rcases hn g e with e | e
    · exact (h.ap g hg).2.1 e
    · have := h.t.ltf g hg; omega
theorem On.rowR (h : On W F b bm V S vi vq vr va D Is Qs Rs As) (hk : KeptIn (fun g => vr.ownBlock = some g) W W') (ho : W'.ownsRow 0 TBo 1 vr' Rs'.length (Rs'.map .bool)) (hn : ∀ g, vr'.ownBlock = some g → vr.ownBlock = some g ∨ W.heap.size ≤ g) : On W' F b bm V S vi vq vr' va D Is Qs Rs' As := by
  have hT : ∀ g, fpT b bm F g → ¬ vr.ownBlock = some g := fun g hg => (h.ap g hg).2.2.1
  refine ⟨h.t.keep hk hT, row_same h.i (fun g hg => hk.block g (row_lt h.i g hg).1 (ty_ne h.i h.r (by decide) hg)), row_same h.q (fun g hg => hk.block g (row_lt h.q g hg).1 (ty_ne h.q h.r (by decide) hg)), ho, row_same h.a (fun g hg => hk.block g (row_lt h.a g hg).1 (ty_ne h.a h.r (by decide) hg)),
    fun x hx => (h.pd x hx).keep hk (fun g hg => h.ltD hg) (fun g hg e => ty_ne5 h.r (by decide) e (h.lt g hg)), fun x hx => (h.pa x hx).keep hk (fun g hg => h.ltD hg) (fun g hg e => ty_ne5 h.r (by decide) e (h.lt g hg)), fun g hg => ?_, fun g hg => ⟨(h.ap g hg).1, (h.ap g hg).2.1, fun e => ?_, (h.ap g hg).2.2.2⟩⟩
  · obtain ⟨cs, hc⟩ := h.lt g hg
    exact ⟨cs, (hk.block g (block_lt hc) (fun e => ty_ne5 h.r (by decide) e (h.lt g hg))).trans hc⟩
  · rcases hn g e with e | e
    · exact (h.ap g hg).2.2.1 e
    · have := h.t.ltf g hg; omega
theorem On.rowA (h : On W F b bm V S vi vq vr va D Is Qs Rs As) (hk : KeptIn (fun g => va.ownBlock = some g) W W') (ho : W'.ownsRow 0 TBy 1 va' As'.length (As'.map ab)) (hn : ∀ g, va'.ownBlock = some g → va.ownBlock = some g ∨ W.heap.size ≤ g) (hp : ∀ x ∈ As', FRow W D x.2.1 x.2.2 x.1) : On W' F b bm V S vi vq vr va' D Is Qs Rs As' := by
  have hT : ∀ g, fpT b bm F g → ¬ va.ownBlock = some g := fun g hg => (h.ap g hg).2.2.2.1
  refine ⟨h.t.keep hk hT, row_same h.i (fun g hg => hk.block g (row_lt h.i g hg).1 (ty_ne h.i h.a (by decide) hg)), row_same h.q (fun g hg => hk.block g (row_lt h.q g hg).1 (ty_ne h.q h.a (by decide) hg)), row_same h.r (fun g hg => hk.block g (row_lt h.r g hg).1 (ty_ne h.r h.a (by decide) hg)), ho,
    fun x hx => (h.pd x hx).keep hk (fun g hg => h.ltD hg) (fun g hg e => ty_ne5 h.a (by decide) e (h.lt g hg)), fun x hx => (hp x hx).keep hk (fun g hg => h.ltD hg) (fun g hg e => ty_ne5 h.a (by decide) e (h.lt g hg)), fun g hg => ?_, fun g hg => ⟨(h.ap g hg).1, (h.ap g hg).2.1, (h.ap g hg).2.2.1, fun e => ?_, (h.ap g hg).2.2.2.2⟩⟩
  · obtain ⟨cs, hc⟩ := h.lt g hg
    exact ⟨cs, (hk.block g (block_lt hc) (fun e => ty_ne5 h.a (by decide) e (h.lt g hg))).trans hc⟩
  · rcases hn g e with e | e
    · exact (h.ap g hg).2.2.2.1 e
    · have := h.t.ltf g hg; omega
/-- the four lists say what the table holds -/
structure Same (S : St) (Is : List Int) (Qs : List Qx) (Rs : List Bool) (As : List Ax) : Prop where
  i : Is = ids S.L
  q : Qs.map (·.1) = S.L.map (·.rq)
  r : Rs = S.L.map (·.rd)
  a : As.map (·.1) = S.L.map (·.an)
theorem Same.add (h : Same S Is Qs Rs As) (q : Rq) (da : Option Addr) (dc : Nat) : Same (addS S q) (Is ++ [(S.last : Int) + 1]) (Qs ++ [(q, da, dc)]) (Rs ++ [false]) (As ++ [([], none, 0)]) := by
  refine ⟨?_, ?_, ?_, ?_⟩
  · rw [h.i]; simp [addS, ids]
  · rw [List.map_append, h.q]; simp [addS]
  · rw [h.r]; simp [addS]
  · rw [List.map_append, h.a]; simp [addS]
theorem Same.clr (S : St) : Same (clrS S) [] [] [] [] := ⟨rfl, rfl, rfl, rfl⟩
end
end Go.Proofs.Ytoabigjajnikcaa.O
