import Derived.Test.YtpkobgnbjmefnabDoorWrQ
import Derived.Test.YtpkobgnbjmefnabDoorOwnW
namespace Go.Proofs.YtpkobgnbjmefnabDoor
open Go.RowKit
set_option linter.unusedVariables false
set_option maxRecDepth 100000

theorem written_any (w0 w : World) (p : Nat) (v : Value) (l : List Nat) (x : Item) (h : WOk w w0.heap.size p v l) (bel : Below w0.heap.size w0 w) (hT : Tabs w0) (hb : BRow w0 x.ao x.cap x.b) (hv : x.v < 18446744073709551616) (hs : x.s.size ≤ 1048576) (hbl : x.b.length ≤ 1048576) (hl : l.length ≤ 140000000000000) :
    Calls Tryd.prog 19 #[.pointer (some ⟨p, 0, none⟩), .agg #[.int .i64 x.kind, .int .u64 (x.v : Int), .int .i64 x.n, .slice x.ao x.b.length x.cap, .string x.s]] w fun e w' => ∃ ao' cap' v', e = .returned (.tuple #[.slice ao' x.wr.length cap', .bool true]) ∧ w'.ownsRow w.heap.size 5 1 (.slice ao' x.wr.length cap') x.wr.length (x.wr.map bv) ∧ WPost w w' w0.heap.size p v v' (l ++ x.wr) ∧ Sep v' (.slice ao' x.wr.length cap') := by
  by_cases h1 : x.kind = 1
  · exact written_1 w0 w p v l x h bel h1 hv hl
  by_cases h2 : x.kind = 2
  · exact written_2 w0 w p v l x h bel h2 hv hl
  by_cases h3 : x.kind = 3
  · exact written_3 w0 w p v l x h bel h3 hv hl
  by_cases h4 : x.kind = 4
  · exact written_4 w0 w p v l x h bel h4 hv hl
  by_cases h5 : x.kind = 5
  · exact written_5 w0 w p v l x h bel h5 hb hbl hl
  by_cases h6 : x.kind = 6
  · exact written_6 w0 w p v l x h bel h6 hl
  by_cases h7 : x.kind = 7
  · exact written_7 w0 w p v l x h bel h7 hT (by omega) hl
  exact written_0 w0 w p v l x h bel h1 h2 h3 h4 h5 h6 h7
theorem wr_len (x : Item) (hb : x.b.length ≤ 1048576) : x.wr.length ≤ 2097152 := by
  have h1 := zM_len x.n
  have h2 := tM_len x.s
  unfold Item.wr
  repeat' split
  all_goals simp [bigTo_length]
  all_goals omega
theorem wr_lt (x : Item) (hb : ∀ y ∈ x.b, y < 256) : ∀ y ∈ x.wr, y < 256 := by
  unfold Item.wr
  repeat' split
  · exact bigTo_lt _ _ _
  · exact bigTo_lt _ _ _
  · exact bigTo_lt _ _ _
  · exact bigTo_lt _ _ _
  · exact hb
  · exact zM_lt _
  · exact tM_lt _
  · simp
def wrAll (X : Nat → Item) : Nat → List Nat
  | 0 => []
  | k + 1 => wrAll X k ++ (X k).wr
theorem wrAll_len (X : Nat → Item) (k : Nat) (h : ∀ i, i < k → (X i).b.length ≤ 1048576) : (wrAll X k).length ≤ k * 2097152 := by
  induction k with
  | zero => simp [wrAll]
  | succ k ih =>
    have h1 := ih (fun i hi => h i (by omega))
    have h2 := wr_len (X k) (h k (by omega))
    simp only [wrAll, List.length_append]
    omega

theorem sep_type {w : World} {B1 B2 e1 e2 n1 n2 : Nat} {v1 v2 : Value} {xs1 xs2 : List Value} (h1 : w.ownsRow B1 e1 1 v1 n1 xs1) (h2 : w.ownsRow B2 e2 1 v2 n2 xs2) (he : e1 ≠ e2) : Sep v1 v2 := fun g g1 g2 => by
  obtain ⟨c1, hc1⟩ := owns_type h1 g g1
  obtain ⟨c2, hc2⟩ := owns_type h2 g g2
  rw [hc1] at hc2
  simp at hc2
  exact he hc2.2
theorem blk_type {w : World} {B e n p t : Nat} {v : Value} {xs : List Value} {cs : Array Value} {fr : Nat × Nat} (h : w.ownsRow B e 1 v n xs) (hb : w.heap[p]? = some (.cells cs t fr)) (he : e ≠ t) : v.ownBlock ≠ some p := fun g1 => by
  obtain ⟨c1, hc1⟩ := owns_type h p g1
  rw [hb] at hc1
  simp at hc1
  exact he hc1.2.1.symm

/-- what holds while a script is written -/
structure WI (w0 w : World) (p : Nat) (v all u : Value) (Lw La : List Nat) (T : List (Value × Nat)) : Prop where
  wok : WOk w w0.heap.size p v Lw
  alls : w.ownsRow w0.heap.size 5 1 all La.length (La.map bv)
  sep : Sep v all
  row : w.ownsRow w0.heap.size 37 1 u T.length (T.map Prod.fst)
  outs : ∀ t ∈ T, ∃ C : List Nat, w.ownsRow w0.heap.size 5 1 t.1 t.2 (C.map bv)
  small : ∀ t ∈ T, t.2 ≤ 4398046511104
  pair : T.Pairwise (fun a b => Sep a.1 b.1)
  tv : ∀ t ∈ T, Sep t.1 v ∧ Sep t.1 all
  bel : Below w0.heap.size w0 w
variable {w0 w w' : World} {p : Nat} {v all u : Value} {Lw La : List Nat} {T : List (Value × Nat)}
theorem WI.start (w0 : World) : WI w0 (w0.alloc (.cells #[.bool true, .slice none 0 0] 61)) w0.heap.size (.slice none 0 0) (.slice none 0 0) (.slice none 0 0) [] [] [] :=
  ⟨wok_new w0, World.ownsRow_nil _ _ _ _, fun g h => by simp [Value.ownBlock] at h, World.ownsRow_nil _ _ _ _, fun t ht => by simp at ht, fun t ht => by simp at ht, List.Pairwise.nil, fun t ht => by simp at ht, (Below.refl _ _).alloc (Nat.le_refl _) _⟩
theorem WI.keep (h : WI w0 w p v all u Lw La T) {S : Nat → Prop} (k : KeptIn S w w') (hp : ¬ S p) (hv : ∀ g, v.ownBlock = some g → ¬ S g) (ha : ∀ g, all.ownBlock = some g → ¬ S g) (hu : ∀ g, u.ownBlock = some g → ¬ S g)
    (ht : ∀ t ∈ T, ∀ g, t.1.ownBlock = some g → ¬ S g) (hB : ∀ g, g < w0.heap.size → ¬ S g) : WI w0 w' p v all u Lw La T :=
  ⟨h.wok.later k hp hv, owns_same h.alls fun g hg => k.block g (owns_lt h.alls g hg).1 (ha g hg), h.sep, owns_same h.row fun g hg => k.block g (owns_lt h.row g hg).1 (hu g hg),
    fun t h' => by
      obtain ⟨C, hC⟩ := h.outs t h'
      exact ⟨C, owns_same hC fun g hg => k.block g (owns_lt hC g hg).1 (ht t h' g hg)⟩,
    h.small, h.pair, h.tv, h.bel.trans (k.below h.bel.size hB)⟩
theorem WI.below (h : WI w0 w p v all u Lw La T) (k : Below w.heap.size w w') : WI w0 w' p v all u Lw La T :=
  h.keep (S := fun _ => False) (KeptIn.ofBelow k) (fun h => h) (fun _ _ h => h) (fun _ _ h => h) (fun _ _ h => h) (fun _ _ _ _ h => h) (fun _ _ h => h)
theorem WI.wrote (h : WI w0 w p v all u Lw La T) {v' : Value} {Lw' : List Nat} (k : WPost w w' w0.heap.size p v v' Lw') : WI w0 w' p v' all u Lw' La T := by
  have hap := blk_type h.alls h.wok.blk (by decide)
  have hup := blk_type h.row h.wok.blk (by decide)
  have huv : Sep u v := sep_type h.row h.wok.own (by decide)
  have hlt : ∀ x : Value, (∀ g, x.ownBlock = some g → g < w.heap.size) → Sep v x → Sep v' x := fun x hx hs g hg e => by
    rcases k.fresh with hf | ⟨g', hf, hge⟩
    · exact hs g (hf ▸ hg) e
    · have h1 := hx g e
      rw [hf] at hg
      have := Option.some.inj hg
      omega
  refine ⟨k.ok, owns_same h.alls fun g hg => k.kept.block g (owns_lt h.alls g hg).1 (fun hS => hS.elim (fun e => hap (by rw [hg, e])) (fun e => h.sep g e hg)), hlt all (fun g hg => (owns_lt h.alls g hg).1) h.sep,
    owns_same h.row fun g hg => k.kept.block g (owns_lt h.row g hg).1 (fun hS => hS.elim (fun e => hup (by rw [hg, e])) (fun e => huv g hg e)), fun t h' => ?_, h.small, h.pair, fun t h' => ⟨?_, (h.tv t h').2⟩, h.bel.trans (wset_below h.wok k.kept h.bel.size)⟩
  · obtain ⟨C, hC⟩ := h.outs t h'
    exact ⟨C, owns_same hC fun g hg => k.kept.block g (owns_lt hC g hg).1 (fun hS => hS.elim (fun e => blk_type hC h.wok.blk (by decide) (by rw [hg, e])) (fun e => (h.tv t h').1 g hg e))⟩
  · obtain ⟨C, hC⟩ := h.outs t h'
    exact (hlt t.1 (fun g hg => (owns_lt hC g hg).1) (h.tv t h').1.symm).symm
theorem kept_grown {w w' : World} {row : Option Nat} (h : w.grownBy w' row) : KeptIn (fun g => row = some g) w w' := ⟨h.os, h.tape, h.output, h.size, fun b hb hS => h.block b hb (fun e => hS e.symm)⟩
theorem WI.more (h : WI w0 w p v all u Lw La T) {all' : Value} {m : List Nat} (hg : w.grownBy w' all.ownBlock) (ho : w'.ownsRow w0.heap.size 5 1 all' (La.length + m.length) (La.map bv ++ m.map bv)) (hf : Fresh w all all') : WI w0 w' p v all' u Lw (La ++ m) T := by
  have k := kept_grown hg
  have hap := blk_type h.alls h.wok.blk (by decide)
  have hua : Sep u all := sep_type h.row h.alls (by decide)
  have hlt : ∀ x : Value, (∀ g, x.ownBlock = some g → g < w.heap.size) → Sep x all → Sep x all' := fun x hx hs g hg' e => by
    rcases hf with hf | ⟨g', hf, hge⟩
    · exact hs g hg' (hf ▸ e)
    · have h1 := hx g hg'
      rw [hf] at e
      have := Option.some.inj e
      omega
  refine ⟨h.wok.later k hap (fun g hv' e => h.sep g hv' e), by rw [List.length_append, List.map_append]; exact ho, hlt v (fun g hg' => (owns_lt h.wok.own g hg').1) h.sep, owns_same h.row fun g hg' => k.block g (owns_lt h.row g hg').1 (fun e => hua g hg' e), fun t h' => ?_, h.small, h.pair, fun t h' => ⟨(h.tv t h').1, ?_⟩, h.bel.trans (k.below h.bel.size (fun g hg' e => ?_))⟩
  · obtain ⟨C, hC⟩ := h.outs t h'
    exact ⟨C, owns_same hC fun g hg' => k.block g (owns_lt hC g hg').1 (fun e => (h.tv t h').2 g hg' e)⟩
  · obtain ⟨C, hC⟩ := h.outs t h'
    exact hlt t.1 (fun g hg' => (owns_lt hC g hg').1) (h.tv t h').2
  · have := (owns_lt h.alls g e).2
    omega
/-- an Out is laid to those told -/
theorem WI.push {wa W0 : World} (ha : WI w0 wa p v all u Lw La T) (h : WI w0 w p v all u Lw La T) {out u' : Value} {n : Nat} {C : List Nat} (ho : w.ownsRow wa.heap.size 5 1 out n (C.map bv)) (hn : n ≤ 4398046511104) (hb : Below w.heap.size w W0)
    (hu : w'.ownsRow w0.heap.size 37 1 u' (T.length + 1) (T.map Prod.fst ++ [out])) (hg : W0.grownBy w' u.ownBlock) : WI w0 w' p v all u' Lw La (T ++ [(out, n)]) := by
  have h0 := h.below hb
  have ho0 : W0.ownsRow wa.heap.size 5 1 out n (C.map bv) := owns_same ho fun g hg' => hb.block g (owns_lt ho g hg').1
  have k := kept_grown hg
  have hup := blk_type h0.row h0.wok.blk (by decide)
  have huv : Sep u v := sep_type h0.row h0.wok.own (by decide)
  have hua : Sep u all := sep_type h0.row h0.alls (by decide)
  have hut : ∀ {B n' : Nat} {x : Value} {xs : List Value}, W0.ownsRow B 5 1 x n' xs → Sep u x := fun hx => sep_type h0.row hx (by decide)
  have hnew : ∀ x : Value, (∀ g, x.ownBlock = some g → g < wa.heap.size) → Sep out x := fun x hx g g1 g2 => by
    have := (owns_lt ho g g1).2
    have := hx g g2
    omega
  refine ⟨h0.wok.later k hup (fun g hv' e => huv g e hv'), owns_same h0.alls fun g hg' => k.block g (owns_lt h0.alls g hg').1 (fun e => hua g e hg'), h0.sep, by simpa using hu, fun t h' => ?_, fun t h' => ?_, ?_, fun t h' => ?_, h0.bel.trans (k.below h0.bel.size (fun g hg' e => ?_))⟩
  · rcases List.mem_append.1 h' with h' | h'
    · obtain ⟨D, hD⟩ := h0.outs t h'
      exact ⟨D, owns_same hD fun g hg' => k.block g (owns_lt hD g hg').1 (fun e => hut hD g e hg')⟩
    · obtain rfl := List.mem_singleton.1 h'
      refine ⟨C, owns_mono (owns_same ho0 fun g hg' => k.block g (owns_lt ho0 g hg').1 (fun e => hut ho0 g e hg')) ha.bel.size⟩
  · rcases List.mem_append.1 h' with h' | h'
    · exact h0.small t h'
    · obtain rfl := List.mem_singleton.1 h'
      exact hn
  · rw [List.pairwise_append]
    refine ⟨h0.pair, List.pairwise_singleton _ _, fun a ha' b hb' => ?_⟩
    obtain rfl := List.mem_singleton.1 hb'
    obtain ⟨D, hD⟩ := ha.outs a ha'
    exact (hnew a.1 (fun g hg' => (owns_lt hD g hg').1)).symm
  · rcases List.mem_append.1 h' with h' | h'
    · exact h0.tv t h'
    · obtain rfl := List.mem_singleton.1 h'
      exact ⟨hnew v (fun g hg' => (owns_lt ha.wok.own g hg').1), hnew all (fun g hg' => (owns_lt ha.alls g hg').1)⟩
  · have := (owns_lt h0.row g e).2
    omega
/-- two Outs are laid to those told -/
theorem WI.push2 {wa wb W0 : World} (ha : WI w0 wa p v all u Lw La T) (hbb : WI w0 wb p v all u Lw La T) (h : WI w0 w p v all u Lw La T) {o1 o2 u' : Value} {n1 n2 : Nat} {C1 C2 : List Nat} (h1 : w.ownsRow wa.heap.size 5 1 o1 n1 (C1.map bv)) (h1b : ∀ g, o1.ownBlock = some g → g < wb.heap.size) (h2 : w.ownsRow wb.heap.size 5 1 o2 n2 (C2.map bv)) (hn1 : n1 ≤ 4398046511104) (hn2 : n2 ≤ 4398046511104) (hb : Below w.heap.size w W0)
    (hu : w'.ownsRow w0.heap.size 37 1 u' (T.length + 2) (T.map Prod.fst ++ [o1, o2])) (hg : W0.grownBy w' u.ownBlock) : WI w0 w' p v all u' Lw La (T ++ [(o1, n1), (o2, n2)]) := by
  have h0 := h.below hb
  have e1 : W0.ownsRow wa.heap.size 5 1 o1 n1 (C1.map bv) := owns_same h1 fun g hg' => hb.block g (owns_lt h1 g hg').1
  have e2 : W0.ownsRow wb.heap.size 5 1 o2 n2 (C2.map bv) := owns_same h2 fun g hg' => hb.block g (owns_lt h2 g hg').1
  have k := kept_grown hg
  have hup := blk_type h0.row h0.wok.blk (by decide)
  have huv : Sep u v := sep_type h0.row h0.wok.own (by decide)
  have hua : Sep u all := sep_type h0.row h0.alls (by decide)
  have hut : ∀ {B n' : Nat} {x : Value} {xs : List Value}, W0.ownsRow B 5 1 x n' xs → Sep u x := fun hx => sep_type h0.row hx (by decide)
  have new1 : ∀ x : Value, (∀ g, x.ownBlock = some g → g < wa.heap.size) → Sep o1 x := fun x hx g g1 g2 => by
    have := (owns_lt h1 g g1).2
    have := hx g g2
    omega
  have new2 : ∀ x : Value, (∀ g, x.ownBlock = some g → g < wb.heap.size) → Sep o2 x := fun x hx g g1 g2 => by
    have := (owns_lt h2 g g1).2
    have := hx g g2
    omega
  refine ⟨h0.wok.later k hup (fun g hv' e => huv g e hv'), owns_same h0.alls fun g hg' => k.block g (owns_lt h0.alls g hg').1 (fun e => hua g e hg'), h0.sep, by simpa using hu, fun t h' => ?_, fun t h' => ?_, ?_, fun t h' => ?_, h0.bel.trans (k.below h0.bel.size (fun g hg' e => ?_))⟩
  · rcases List.mem_append.1 h' with h' | h'
    · obtain ⟨D, hD⟩ := h0.outs t h'
      exact ⟨D, owns_same hD fun g hg' => k.block g (owns_lt hD g hg').1 (fun e => hut hD g e hg')⟩
    · simp only [List.mem_cons, List.not_mem_nil, or_false] at h'
      rcases h' with rfl | rfl
      · exact ⟨C1, owns_mono (owns_same e1 fun g hg' => k.block g (owns_lt e1 g hg').1 (fun e => hut e1 g e hg')) ha.bel.size⟩
      · exact ⟨C2, owns_mono (owns_same e2 fun g hg' => k.block g (owns_lt e2 g hg').1 (fun e => hut e2 g e hg')) hbb.bel.size⟩
  · rcases List.mem_append.1 h' with h' | h'
    · exact h0.small t h'
    · simp only [List.mem_cons, List.not_mem_nil, or_false] at h'
      rcases h' with rfl | rfl
      · exact hn1
      · exact hn2
  · rw [List.pairwise_append]
    refine ⟨h0.pair, ?_, fun a ha' b hb' => ?_⟩
    · rw [List.pairwise_pair]; exact (new2 o1 h1b).symm
    · simp only [List.mem_cons, List.not_mem_nil, or_false] at hb'
      rcases hb' with rfl | rfl
      · obtain ⟨D, hD⟩ := ha.outs a ha'
        exact (new1 a.1 (fun g hg' => (owns_lt hD g hg').1)).symm
      · obtain ⟨D, hD⟩ := hbb.outs a ha'
        exact (new2 a.1 (fun g hg' => (owns_lt hD g hg').1)).symm
  · rcases List.mem_append.1 h' with h' | h'
    · exact h0.tv t h'
    · simp only [List.mem_cons, List.not_mem_nil, or_false] at h'
      rcases h' with rfl | rfl
      · exact ⟨new1 v (fun g hg' => (owns_lt ha.wok.own g hg').1), new1 all (fun g hg' => (owns_lt ha.alls g hg').1)⟩
      · exact ⟨new2 v (fun g hg' => (owns_lt hbb.wok.own g hg').1), new2 all (fun g hg' => (owns_lt hbb.alls g hg').1)⟩
  · have := (owns_lt h0.row g e).2
    omega
def tval (T : List (Value × Nat)) (i : Nat) : Value := (T[i]?.getD (.slice none 0 0, 0)).1
def tlen (T : List (Value × Nat)) (i : Nat) : Nat := (T[i]?.getD (.slice none 0 0, 0)).2
theorem WI.lists (h : WI w0 w p v all u Lw La T) {lb cap : Nat} (hu : u = .slice (some ⟨lb, 0, none⟩) T.length cap) : Lists w w0.heap.size lb 0 T.length (tval T) (tlen T) := by
  subst hu
  have hmem : ∀ i, i < T.length → (tval T i, tlen T i) ∈ T := fun i hi => by
    simp only [tval, tlen, List.getElem?_eq_getElem hi, Option.getD_some]; exact List.getElem_mem hi
  have hsep : ∀ i j, i < T.length → j < T.length → i < j → Sep (tval T i) (tval T j) := fun i j hi hj hij => by
    have := List.pairwise_iff_getElem.1 h.pair i j hi hj hij
    simpa [tval, hi, hj] using this
  refine ⟨fun i hi => ?_, fun i hi => h.outs _ (hmem i hi), fun i j hi hj hne => ?_, fun i hi e => ?_, fun i hi => h.small _ (hmem i hi), h.bel.size⟩
  · have := h.row.cellAt i (by omega)
    rw [Nat.zero_add, this]
    simp [tval, hi]
  · rcases Nat.lt_or_gt_of_ne hne with hlt | hlt
    · exact hsep i j hi hj hlt
    · exact (hsep j i hj hi hlt).symm
  · obtain ⟨C, hC⟩ := h.outs _ (hmem i hi)
    exact sep_type hC h.row (by decide) lb e rfl
theorem WI.owned (h : WI w0 w p v all u Lw La T) (k : KeptIn (OwnSet T.length (tval T)) w w') : WOk w' w0.heap.size p v Lw ∧ w'.ownsRow w0.heap.size 5 1 all La.length (La.map bv) ∧ Below w0.heap.size w0 w' := by
  have hmem : ∀ i, i < T.length → (tval T i, tlen T i) ∈ T := fun i hi => by
    simp only [tval, tlen, List.getElem?_eq_getElem hi, Option.getD_some]; exact List.getElem_mem hi
  refine ⟨h.wok.later k ?_ ?_, owns_same h.alls fun g hg => k.block g (owns_lt h.alls g hg).1 ?_, h.bel.trans (k.below h.bel.size ?_)⟩
  · rintro ⟨i, hi, e⟩
    obtain ⟨C, hC⟩ := h.outs _ (hmem i hi)
    exact blk_type hC h.wok.blk (by decide) e
  · rintro g hg ⟨i, hi, e⟩
    exact (h.tv _ (hmem i hi)).1 g e hg
  · rintro ⟨i, hi, e⟩
    exact (h.tv _ (hmem i hi)).2 g e hg
  · rintro g hg ⟨i, hi, e⟩
    obtain ⟨C, hC⟩ := h.outs _ (hmem i hi)
    have := (owns_lt hC g e).2
    omega

set_option maxHeartbeats 400000 in
theorem wlen_any (B p : Nat) (v : Value) (l : List Nat) (n : Nat) (w : World) (h : WOk w B p v l) (HN : Hid (l.length = n)) :
    Calls Tryd.prog 69 #[.pointer (some ⟨p, 0, none⟩)] w fun e w' => e = .returned (.int .i64 (n : Int)) ∧ w' = w := by
  have HU : Hid (Calls Tryd.prog 67 #[.pointer (some ⟨p, 0, none⟩)] w fun e w' => e = .returned (.bool true) ∧ w' = w) := usable_true p w h.c0
  have c1 := h.c1
  obtain ⟨ao, cap, hv⟩ := owns_form h.own
  subst hv
  rw [HN.out] at c1
  clear h
  go_enter Tryd.func69, Tryd.ntmps69
  go_wp2_with fail
  refine HU.out.mono ?_
  rintro e w1 ⟨rfl, hw⟩
  rw [hw]; clear hw
  go_wp2
  go_ret
  exact ⟨rfl, rfl⟩
end Go.Proofs.YtpkobgnbjmefnabDoor
