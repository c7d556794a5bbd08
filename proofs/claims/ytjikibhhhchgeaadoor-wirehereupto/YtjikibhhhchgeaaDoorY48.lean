import Derived.Test.YtjikibhhhchgeaaDoorY46
import Derived.Test.YtjikibhhhchgeaaDoorY47
import Derived.Deep.MidRow
namespace Go.Proofs.YtjikibhhhchgeaaDoor
open Go.RowKit
set_option linter.unusedVariables false
set_option linter.unusedSimpArgs false
set_option maxRecDepth 100000
theorem cell_hp {W V : World} {b j : Nat} (h : V.heap[b]? = W.heap[b]?) : V.cell? ⟨b, j, none⟩ = W.cell? ⟨b, j, none⟩ := by simp only [World.cell?, h]
/-- the blocks that the law itself writes to -/
def Pr (gx ge b : Nat) : Prop := b = gx ∨ b = ge
section
variable {W V : World} {gx ge : Nat} {a : Option Addr}
theorem BRow.kU {c : Nat} {l : List Nat} (h : BRow W a c l) (hf : ∀ ad, a = some ad → gx < ad.block ∧ ge < ad.block) (k : KeptIn (Pr gx ge) W V) : BRow V a c l :=
  ⟨h.lt, h.len, h.nil, fun hne => by
    obtain ⟨b, off, e, hc⟩ := h.at_ hne
    have h1 := hf _ e
    simp only at h1
    have h2 : b < W.heap.size := World.block_lt_of_cell? _ _ (hc 0 (List.length_pos_iff.2 hne))
    have hh := k.block b h2 (fun h => by rcases h with h | h <;> omega)
    exact ⟨b, off, e, fun j hj => (cell_hp hh).trans (hc j hj)⟩⟩
theorem U16s.kU {l : List Nat} (h : U16s W a l) (hf : ∀ ad, a = some ad → gx < ad.block ∧ ge < ad.block) (k : KeptIn (Pr gx ge) W V) : U16s V a l :=
  ⟨h.lt, fun hne => by
    obtain ⟨b, off, e, hc⟩ := h.at_ hne
    have h1 := hf _ e
    simp only at h1
    have h2 : b < W.heap.size := World.block_lt_of_cell? _ _ (hc 0 (List.length_pos_iff.2 hne))
    have hh := k.block b h2 (fun h => by rcases h with h | h <;> omega)
    exact ⟨b, off, e, fun j hj => (cell_hp hh).trans (hc j hj)⟩⟩
theorem Strs.kU {l : List ByteArray} (h : Strs W a l) (hf : ∀ ad, a = some ad → gx < ad.block ∧ ge < ad.block) (k : KeptIn (Pr gx ge) W V) : Strs V a l :=
  ⟨h.sz, fun hne => by
    obtain ⟨b, off, e, hc⟩ := h.at_ hne
    have h1 := hf _ e
    simp only at h1
    have h2 : b < W.heap.size := World.block_lt_of_cell? _ _ (hc 0 (List.length_pos_iff.2 hne))
    have hh := k.block b h2 (fun h => by rcases h with h | h <;> omega)
    exact ⟨b, off, e, fun j hj => (cell_hp hh).trans (hc j hj)⟩⟩
theorem Runs.kU {l : List (Nat × Nat)} (h : Runs W a l) (hf : ∀ ad, a = some ad → gx < ad.block ∧ ge < ad.block) (k : KeptIn (Pr gx ge) W V) : Runs V a l :=
  ⟨h.lt, fun hne => by
    obtain ⟨b, off, e, hc⟩ := h.at_ hne
    have h1 := hf _ e
    simp only at h1
    have h2 : b < W.heap.size := World.block_lt_of_cell? _ _ (hc 0 (List.length_pos_iff.2 hne)).1
    have hh := k.block b h2 (fun h => by rcases h with h | h <;> omega)
    exact ⟨b, off, e, fun j hj => ⟨(cell_hp hh).trans (hc j hj).1, (cell_hp hh).trans (hc j hj).2⟩⟩⟩
end
/-- no row of the bodies lies in the law's own blocks -/
structure Bod.far (x : Bod) (gx ge : Nat) : Prop where
  f1 : ∀ ad, x.a1 = some ad → gx < ad.block ∧ ge < ad.block
  f2 : ∀ ad, x.a2 = some ad → gx < ad.block ∧ ge < ad.block
  f3 : ∀ ad, x.a3 = some ad → gx < ad.block ∧ ge < ad.block
  f5 : ∀ ad, x.a5 = some ad → gx < ad.block ∧ ge < ad.block
  f6 : ∀ ad, x.a6 = some ad → gx < ad.block ∧ ge < ad.block
  f8 : ∀ ad, x.a8 = some ad → gx < ad.block ∧ ge < ad.block
theorem Bod.ok.kU {x : Bod} {W V : World} {gx ge : Nat} (h : x.ok W) (f : x.far gx ge) (k : KeptIn (Pr gx ge) W V) : x.ok V :=
  { h with r1 := h.r1.kU f.f1 k, r2 := h.r2.kU f.f2 k, r3 := h.r3.kU f.f3 k, r5 := h.r5.kU f.f5 k, r6 := h.r6.kU f.f6 k, r8 := h.r8.kU f.f8 k }
def setA (cs : Array Value) : Nat → List Value → Array Value
  | _, [] => cs
  | o, v :: vs => setA (cs.setIfInBounds o v) (o + 1) vs
theorem put_list {g : Nat} {t : TypeId} : ∀ (vs : List Value) (o : Nat) (W : World) (cs : Array Value), W.heap[g]? = some (.cells cs t (0, 0)) → o + vs.length ≤ cs.size → (W.setCells g o vs).heap[g]? = some (.cells (setA cs o vs) t (0, 0)) ∧ KeptIn (fun b => b = g) W (W.setCells g o vs)
  | [], _, W, cs, h, _ => ⟨h, KeptIn.ofBelow (Below.refl _ _)⟩
  | v :: vs, o, W, cs, h, hs => by
    have h1 := put_boxX h o v rfl
    obtain ⟨h2, h3⟩ := put_list vs (o + 1) _ _ h1 (by simp at hs ⊢; omega)
    exact ⟨h2, (keptIn_set W g o v).trans h3 (fun _ _ hn => hn)⟩
theorem there_box {W : World} {g : Nat} {cs : Array Value} {t : TypeId} (h : W.heap[g]? = some (.cells cs t (0, 0))) {o k : Nat} (hk : o + k ≤ cs.size) : W.there g o k := fun j hj => ⟨by
    rw [blk_at h, Array.getElem?_eq_getElem (by omega)]; rfl, blk_free h _⟩
/-- the law while it unpacks -/
structure Hx (w W : World) (gx ge : Nat) (x : Bod) (es : List Nat) : Prop where
  bel : Below w.heap.size w W
  ok : x.ok W
  far : x.far gx ge
  bx : W.heap[gx]? = some (.cells x.cells 48 (0, 0))
  be : W.heap[ge]? = some (.cells (es.map (fun e : Nat => Value.int .i64 (e : Int))).toArray 81 (0, 0))
  hx : w.heap.size ≤ gx
  hg : gx < ge
theorem Hx.eCell {w W : World} {gx ge : Nat} {x : Bod} {es : List Nat} (h : Hx w W gx ge x es) (o : Nat) (vs : List Value) (ho : o + vs.length ≤ 27) (i e : Nat) (he : es[i]? = some e) : (W.setCells gx o vs).cell? ⟨ge, i, none⟩ = some (.int .i64 (e : Int)) ∧ (W.setCells gx o vs).frozen? ⟨ge, i, none⟩ = false := by
  obtain ⟨_, p2⟩ := put_list vs o W x.cells h.bx (by show _ ≤ 27; exact ho)
  have hne : ge ≠ gx := by have := h.hg; omega
  have hge := (p2.block ge (block_lt h.be) hne).trans h.be
  exact ⟨by rw [blk_at hge]; simp [he], blk_free hge _⟩
theorem Hx.later {w W V : World} {gx ge : Nat} {x : Bod} {es : List Nat} (h : Hx w W gx ge x es) (k : Below W.heap.size W V) : Hx w V gx ge x es :=
  ⟨h.bel.trans (k.mono h.bel.size), h.ok.later k, h.far, box_later h.bx k, box_later h.be k, h.hx, h.hg⟩
/-- what one Unpack leaves: its cells of the bodies, its number of the errors -/
theorem Hx.put {w W : World} {gx ge : Nat} {x y : Bod} {es : List Nat} (h : Hx w W gx ge x es) (o : Nat) (vs : List Value) (i er : Nat) (hi : i < es.length) (ho : o + vs.length ≤ 27) (hy : y.ok W) (hf : y.far gx ge) (hc : setA x.cells o vs = y.cells) : Hx w ((W.setCells gx o vs).setCell ⟨ge, i, none⟩ (.int .i64 (er : Int))) gx ge y (es.set i er) := by
  obtain ⟨p1, p2⟩ := put_list vs o W x.cells h.bx (by show _ ≤ 27; exact ho)
  have hne : ge ≠ gx := by have := h.hg; omega
  have hge : (W.setCells gx o vs).heap[ge]? = some (.cells (es.map (fun e : Nat => Value.int .i64 (e : Int))).toArray 81 (0, 0)) := (p2.block ge (block_lt h.be) hne).trans h.be
  have p3 := put_boxX hge i (.int .i64 (er : Int)) rfl
  have p4 := keptIn_set (W.setCells gx o vs) ge i (.int .i64 (er : Int))
  have k : KeptIn (Pr gx ge) W ((W.setCells gx o vs).setCell ⟨ge, i, none⟩ (.int .i64 (er : Int))) := (p2.mono (fun _ _ e => .inl e)).trans (p4.mono (fun _ _ e => .inr e)) (fun _ _ hn => hn)
  refine ⟨h.bel.trans (k.below h.bel.size (fun g hg e => by have h1 := h.hx; have h2 := h.hg; rcases e with e | e <;> omega)), hy.kU hf k, hf, ?_, ?_, h.hx, h.hg⟩
  · rw [p4.block gx (block_lt p1) (fun e => hne e.symm), p1, hc]
  · rw [p3]; simp [List.map_set]
def bod0 (wide : Bool) : Bod := { k := 0, sz := 0, fl := 0, s1 := ⟨#[]⟩, mn := 0, pf := 0, mx := 0, a1 := none, n1 := 0, c1 := 0, d1 := [], s2 := ⟨#[]⟩, a2 := none, n2 := 0, c2 := 0, ks := [], s3 := ⟨#[]⟩, a3 := none, n3 := 0, c3 := 0, qs := [], mc := 0, s4 := ⟨#[]⟩, s5 := ⟨#[]⟩, a5 := none, n5 := 0, c5 := 0, m5 := [], cx := 0, a6 := none, n6 := 0, c6 := 0, rs := [], wide := wide, ec := 0, s7 := ⟨#[]⟩, pl := false, ea := 0, off := 0, a8 := none, n8 := 0, c8 := 0, m8 := [], ho := 0, ln := 0 }
theorem bod0_ok (wide : Bool) (w : World) : (bod0 wide).ok w :=
  { hk := by cases wide <;> decide, hsz := by cases wide <;> decide, hfl := by cases wide <;> decide, h1 := by cases wide <;> decide, hmn := by cases wide <;> decide, hpf := by cases wide <;> decide, hmx := by cases wide <;> decide, r1 := brow_nil _, l1 := rfl, b1 := by cases wide <;> decide, h2 := by cases wide <;> decide, r2 := u16s_nil _ _, l2 := rfl, h3 := by cases wide <;> decide, r3 := strs_nil _ _, l3 := rfl, b3 := by cases wide <;> decide, hmc := by cases wide <;> decide, h4 := by cases wide <;> decide, h5 := by cases wide <;> decide, r5 := brow_nil _, l5 := rfl, b5 := by cases wide <;> decide, hcx := by cases wide <;> decide, r6 := runs_nil _ _, l6 := rfl, b6 := by cases wide <;> decide, hec := by cases wide <;> decide, h7 := by cases wide <;> decide, hea := by cases wide <;> decide, hoff := by cases wide <;> decide, r8 := brow_nil _, l8 := rfl, b8 := by cases wide <;> decide, hho := by cases wide <;> decide, hln := by cases wide <;> decide }
theorem bod0_far (wide : Bool) (gx ge : Nat) : (bod0 wide).far gx ge := ⟨fun _ e => (by cases e), fun _ e => (by cases e), fun _ e => (by cases e), fun _ e => (by cases e), fun _ e => (by cases e), fun _ e => (by cases e)⟩
end Go.Proofs.YtjikibhhhchgeaaDoor
