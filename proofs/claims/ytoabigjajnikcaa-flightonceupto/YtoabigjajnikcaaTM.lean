import Derived.Test.YtoabigjajnikcaaTA
import Derived.Maps.OwnSet
import Derived.Lib.SlKeysI
import Derived.OwnWalk
import Derived.Laws.Pointers
import Derived.Laws.Rows
namespace Go.Proofs.Ytoabigjajnikcaa
open Go.RowKit Go.Maps
set_option linter.unusedVariables false
set_option linter.unusedSimpArgs false
set_option maxRecDepth 100000

abbrev TTb : TypeId := 76
abbrev TEn : TypeId := 56
abbrev TMp : TypeId := 74
abbrev TIn : TypeId := 3
abbrev TRt : TypeId := 63
/-- a request -/
structure Rq where
  fl : Int
  ty : Int
  ck : Int
  off : Int
  len : Int
  data : List Nat
/-- an entry -/
structure En where
  id : Int
  rq : Rq
  rd : Bool
  an : List Nat
/-- a table -/
structure St where
  most : Nat
  last : Nat
  L : List En
def ids (L : List En) : List Int := L.map (·.id)
structure SOk (S : St) : Prop where
  m1 : 1 ≤ S.most
  m2 : S.most ≤ 64
  len : S.L.length ≤ S.most
  rise : (ids S.L).Pairwise (· < ·)
  pos : ∀ i ∈ ids S.L, 1 ≤ i
  top : ∀ i ∈ ids S.L, i ≤ S.last
  big : S.last ≤ 4611686018427387904

/-! the map -/
abbrev kl (k : Int) : Lit := .int .i64 k
def heldE (v : Value) : Option (DataW Value × List MemPlace) := some (.held v, [])
theorem heldE_inj {v u : Value} {ps : List MemPlace} (h : heldE v = some (.held u, ps)) : v = u := by
  simp only [heldE, Option.some.injEq, Prod.mk.injEq, DataW.held.injEq] at h; exact h.1
def mapI (I : List Int) (V : Int → Value) : DataW Value := .map (I.map fun i => (kl i, .held (V i)))
def updV (V : Int → Value) (k : Int) (v : Value) (i : Int) : Value := if i = k then v else V i
theorem updV_same (V : Int → Value) (k : Int) (v : Value) : updV V k v k = v := by simp [updV]
theorem updV_other {V : Int → Value} {k i : Int} {v : Value} (h : i ≠ k) : updV V k v i = V i := by simp [updV, h]
theorem sameKey_kl (i k : Int) : (kl i).sameKey (kl k) = decide (i = k) := by simp [Lit.sameKey]
theorem mapI_size (I : List Int) (V : Int → Value) : Maps.size (mapI I V) = I.length := by simp [mapI, Maps.size]
theorem mapI_keys (I : List Int) (V : Int → Value) : intKeys (mapI I V) = I := by
  simp only [mapI, intKeys, List.map_map, Function.comp_def, kl]
  exact (List.map_congr_left fun i _ => rfl).trans (List.map_id I)
theorem mapI_has (I : List Int) (V : Int → Value) (k : Int) : Maps.has (mapI I V) (kl k) = decide (k ∈ I) := by
  rw [mapI, Maps.has_eq, Bool.eq_iff_iff]
  simp [List.any_eq_true, Lit.sameKey]
theorem find_map : ∀ (I : List Int) (V : Int → Value) (k : Int), (I.map fun i => ((kl i, .held (V i)) : Lit × DataW Value)).find? (fun p => p.1.sameKey (kl k)) = if k ∈ I then some (kl k, .held (V k)) else none
  | [], V, k => by simp
  | i :: I, V, k => by
    rw [List.map_cons, List.find?_cons, sameKey_kl]
    by_cases h : i = k
    · subst h; simp
    · have h' : ¬ k = i := fun e => h e.symm
      simp only [h, decide_false]
      rw [find_map I V k]
      simp [h']
theorem mapI_at (I : List Int) (V : Int → Value) (k : Int) (z : DataW Value) (h : k ∈ I) : (mapI I V).atKey (kl k) z = .held (V k) := by
  simp only [mapI, DataW.atKey]
  rw [find_map]; simp [h]
theorem filt_map (I : List Int) (V : Int → Value) (k : Int) : (I.map fun i => ((kl i, .held (V i)) : Lit × DataW Value)).filter (fun p => !p.1.sameKey (kl k)) = (I.filter (· ≠ k)).map fun i => (kl i, .held (V i)) := by
  rw [List.filter_map]
  congr 1
  apply List.filter_congr
  intro i _
  simp [Lit.sameKey]
theorem mapI_del (I : List Int) (V : Int → Value) (k : Int) : (mapI I V).del (kl k) = mapI (I.filter (· ≠ k)) V := by
  simp only [mapI, DataW.del, filt_map]
theorem insert_last : ∀ (I : List Int) (V : Int → Value) (k : Int) (v : DataW Value), (∀ i ∈ I, i < k) → DataW.insert (kl k, v) (I.map fun i => (kl i, .held (V i))) = (I.map fun i => (kl i, .held (V i))) ++ [(kl k, v)]
  | [], V, k, v, _ => by simp [DataW.insert]
  | i :: I, V, k, v, h => by
    rw [List.map_cons, DataW.insert]
    have h1 : i < k := h i (by simp)
    have h2 : ¬ k < i := by omega
    simp only [Lit.before, h2, decide_false, Bool.false_eq_true, if_false]
    rw [insert_last I V k v fun j hj => h j (by simp [hj])]
    simp
theorem mapI_congr {I : List Int} {V V' : Int → Value} (h : ∀ i ∈ I, V i = V' i) : mapI I V = mapI I V' := by
  unfold mapI
  congr 1
  apply List.map_congr_left
  intro i hi
  rw [h i hi]
theorem mapI_put_last (I : List Int) (V : Int → Value) (k : Int) (v : Value) (h : ∀ i ∈ I, i < k) : (mapI I V).put (kl k) (.held v) = mapI (I ++ [k]) (updV V k v) := by
  have e1 : I.filter (· ≠ k) = I := List.filter_eq_self.2 fun i hi => by have := h i hi; simp; omega
  rw [mapI_congr (I := I) (V := V) (V' := updV V k v) fun i hi => (updV_other (by have := h i hi; omega)).symm]
  simp only [mapI, DataW.put, filt_map, e1]
  rw [insert_last I _ k _ h, List.map_append]
  simp [updV_same]
theorem insert_at : ∀ (I : List Int) (V : Int → Value) (k : Int) (v : Value), I.Pairwise (· < ·) → k ∈ I → DataW.insert (kl k, .held v) ((I.filter (· ≠ k)).map fun i => (kl i, .held (V i))) = I.map fun i => (kl i, .held (updV V k v i))
  | [], V, k, v, _, h => by simp at h
  | i :: I, V, k, v, hp, h => by
    have hp' := List.pairwise_cons.1 hp
    by_cases e : i = k
    · subst e
      have e1 : I.filter (· ≠ i) = I := List.filter_eq_self.2 fun j hj => by have := hp'.1 j hj; simp; omega
      have e2 : (I.map fun j => ((kl j, .held (V j)) : Lit × DataW Value)) = I.map fun j => (kl j, .held (updV V i v j)) := List.map_congr_left fun j hj => by rw [updV_other (by have := hp'.1 j hj; omega)]
      rw [List.filter_cons]
      simp only [ne_eq, not_true, decide_false, Bool.false_eq_true, if_false]
      have e1' : I.filter (fun x => decide ¬ x = i) = I := e1
      rw [e1', List.map_cons, updV_same, ← e2]
      cases I with
      | nil => simp [DataW.insert]
      | cons j J =>
        have : i < j := hp'.1 j (by simp)
        simp [DataW.insert, Lit.before, this]
    · have hk : k ∈ I := by simpa [Ne.symm e, eq_comm, e] using h
      have hlt : i < k := hp'.1 k hk
      have h2 : ¬ k < i := by omega
      rw [List.filter_cons]
      simp only [ne_eq, e, not_false_eq_true, decide_true, if_true]
      rw [List.map_cons, DataW.insert]
      simp only [Lit.before, h2, decide_false, Bool.false_eq_true, if_false]
      have := insert_at I V k v hp'.2 hk
      simp only [ne_eq] at this
      rw [this, List.map_cons, updV_other e]
theorem mapI_put_at (I : List Int) (V : Int → Value) (k : Int) (v : Value) (hp : I.Pairwise (· < ·)) (h : k ∈ I) : (mapI I V).put (kl k) (.held v) = mapI I (updV V k v) := by
  simp only [mapI, DataW.put, filt_map]
  rw [insert_at I V k v hp h]
theorem sorted_ids {ss I : List Int} (h : ss.Perm I) (hp : I.Pairwise (· < ·)) : ss.mergeSort (fun x y => decide (x ≤ y)) = I := by
  refine List.Perm.eq_of_pairwise (le := fun a b => decide (a ≤ b) = true) (fun a b _ _ h1 h2 => by simp only [decide_eq_true_eq] at h1 h2; omega) (List.pairwise_mergeSort (fun a b c h1 h2 => by simp only [decide_eq_true_eq] at *; omega) (fun a b => by simp only [Bool.or_eq_true, decide_eq_true_eq]; omega) ss) ?_ ((List.mergeSort_perm _ _).trans h)
  exact hp.imp fun {a b} h => by simp only [decide_eq_true_eq]; omega
theorem keyed : Keyed Try.prog TIn := int_keyed Try.underlying3
theorem keyAt {k : Int} (h : (Lit.int .i64 k).wf = true) : keyOf Try.prog TIn (.int .i64 k) = some (kl k) := keyOf_int_mk Try.underlying3 h

/-! rows of bytes with a footprint -/
theorem cell_block {w w' : World} {b j : Nat} (h : w'.heap[b]? = w.heap[b]?) : w'.cell? ⟨b, j, none⟩ = w.cell? ⟨b, j, none⟩ := by
  unfold World.cell?; rw [h]
structure FRow (w : World) (F : Nat → Prop) (ao : Option Addr) (cap : Nat) (l : List Nat) : Prop where
  row : BRow w ao cap l
  fp : l ≠ [] → ∀ a, ao = some a → F a.block
theorem FRow.mono {w : World} {F F' : Nat → Prop} {ao : Option Addr} {cap : Nat} {l : List Nat} (h : FRow w F ao cap l) (hF : ∀ g, F g → F' g) : FRow w F' ao cap l := ⟨h.row, fun hl a e => hF _ (h.fp hl a e)⟩
theorem FRow.keep {w w' : World} {F S : Nat → Prop} {ao : Option Addr} {cap : Nat} {l : List Nat} (h : FRow w F ao cap l) (hk : KeptIn S w w') (hlt : ∀ g, F g → g < w.heap.size) (hd : ∀ g, F g → ¬ S g) : FRow w' F ao cap l := by
  refine ⟨⟨h.row.lt, h.row.len, h.row.nil, fun hne => ?_⟩, h.fp⟩
  obtain ⟨b, off, e, hc⟩ := h.row.at_ hne
  refine ⟨b, off, e, fun k hkk => ?_⟩
  have hF := h.fp hne _ e
  rw [cell_block (hk.block b (hlt _ hF) (hd _ hF))]
  exact hc k hkk
theorem FRow.nil (w : World) (F : Nat → Prop) : FRow w F none 0 [] := ⟨⟨by simp, by simp, fun _ => ⟨rfl, rfl⟩, fun h => absurd rfl h⟩, fun h => absurd rfl h⟩
theorem FRow.own {w : World} {base : Nat} {F : Nat → Prop} {v : Value} {l : List Nat} (h : w.ownsRow base 5 1 v l.length (l.map bv)) (hlt : ∀ x ∈ l, x < 256) (hlen : l.length ≤ 140737488351232) (hF : ∀ g, v.ownBlock = some g → F g) : ∃ ao cap, v = .slice ao l.length cap ∧ FRow w F ao cap l := by
  obtain ⟨ao, cap, e, hb⟩ := BRow.own h hlt hlen
  exact ⟨ao, cap, e, hb, fun _ a ea => hF _ (by rw [e, ea]; rfl)⟩
/-- the cells of a request, of an entry -/
def rcl (q : Rq) (da : Option Addr) (dc : Nat) : List Value := [.int .u16 q.fl, .int .u16 q.ty, .int .u64 q.ck, .int .u64 q.off, .int .u64 q.len, .slice da q.data.length dc]
def ecl (e : En) (da : Option Addr) (dc : Nat) (aa : Option Addr) (ac : Nat) : List Value := [.int .i64 e.id, .int .u16 e.rq.fl, .int .u16 e.rq.ty, .int .u64 e.rq.ck, .int .u64 e.rq.off, .int .u64 e.rq.len, .slice da e.rq.data.length dc, .bool e.rd, .slice aa e.an.length ac]
/-- an entry as a value -/
structure PV (w : World) (F : Nat → Prop) (v : Value) (e : En) : Prop where
  ex : ∃ da dc aa ac, v = .agg (ecl e da dc aa ac).toArray ∧ FRow w F da dc e.rq.data ∧ FRow w F aa ac e.an
theorem PV.mono {w : World} {F F' : Nat → Prop} {v : Value} {e : En} (h : PV w F v e) (hF : ∀ g, F g → F' g) : PV w F' v e := by
  obtain ⟨da, dc, aa, ac, hv, h1, h2⟩ := h.ex
  exact ⟨da, dc, aa, ac, hv, h1.mono hF, h2.mono hF⟩
theorem PV.keep {w w' : World} {F S : Nat → Prop} {v : Value} {e : En} (h : PV w F v e) (hk : KeptIn S w w') (hlt : ∀ g, F g → g < w.heap.size) (hd : ∀ g, F g → ¬ S g) : PV w' F v e := by
  obtain ⟨da, dc, aa, ac, hv, h1, h2⟩ := h.ex
  exact ⟨da, dc, aa, ac, hv, h1.keep hk hlt hd, h2.keep hk hlt hd⟩
theorem ownsMap_block {w w' : World} {b n : Nat} {D : DataW Value} (h : w.ownsMap Try.prog TIn heldE b n D) (hb : w'.heap[b]? = w.heap[b]?) : w'.ownsMap Try.prog TIn heldE b n D := by
  obtain ⟨es, clock, h1, h2, h3, h4⟩ := h
  exact ⟨es, clock, hb.trans h1, h2, h3, h4⟩
theorem ownsMap_tight {w : World} {b n : Nat} {D : DataW Value} (h : w.ownsMap Try.prog TIn heldE b n D) : w.ownsMap Try.prog TIn heldE b (Maps.size D) D := by
  obtain ⟨es, clock, h1, h2, h3, h4⟩ := h
  refine ⟨es, clock, h1, h2, ?_, h4⟩
  rw [h4, Maps.size_eq, length_read]
  exact Nat.le_refl _
/-- the program's table in memory: its own two blocks, and its entries' bytes in the blocks F -/
structure RT (w : World) (F : Nat → Prop) (b bm : Nat) (V : Int → Value) (S : St) : Prop where
  lt : ∀ g, F g → g < w.heap.size
  nb : ¬ F b
  nm : ¬ F bm
  blk : w.heap[b]? = some (.cells #[.int .i64 S.most, .int .i64 S.last, .map (some bm)] TTb (0, 0))
  mp : w.ownsMap Try.prog TIn heldE bm S.L.length (mapI (ids S.L) V)
  pv : ∀ e ∈ S.L, PV w F (V e.id) e
  ok : SOk S
def fpT (b bm : Nat) (F : Nat → Prop) (g : Nat) : Prop := g = b ∨ g = bm ∨ F g
theorem RT.ltb {w : World} {F : Nat → Prop} {b bm : Nat} {V : Int → Value} {S : St} (h : RT w F b bm V S) : b < w.heap.size := block_lt h.blk
theorem RT.ltm {w : World} {F : Nat → Prop} {b bm : Nat} {V : Int → Value} {S : St} (h : RT w F b bm V S) : bm < w.heap.size := h.mp.lt
theorem RT.keep {w w' : World} {F X : Nat → Prop} {b bm : Nat} {V : Int → Value} {S : St} (h : RT w F b bm V S) (hk : KeptIn X w w') (hd : ∀ g, fpT b bm F g → ¬ X g) : RT w' F b bm V S :=
  ⟨fun g hg => Nat.lt_of_lt_of_le (h.lt g hg) hk.size, h.nb, h.nm, (hk.block b h.ltb (hd _ (.inl rfl))).trans h.blk, ownsMap_block h.mp (hk.block bm h.ltm (hd _ (.inr (.inl rfl)))), fun e he => (h.pv e he).keep hk h.lt (fun g hg => hd g (.inr (.inr hg))), h.ok⟩
theorem RT.later {w w' : World} {F : Nat → Prop} {b bm : Nat} {V : Int → Value} {S : St} (h : RT w F b bm V S) (hb : Below w.heap.size w w') : RT w' F b bm V S := h.keep (X := fun _ => False) (KeptIn.ofBelow hb) (fun _ _ h => h)
theorem RT.c {w : World} {F : Nat → Prop} {b bm : Nat} {V : Int → Value} {S : St} (h : RT w F b bm V S) (j : Nat) : w.cell? ⟨b, j, none⟩ = (#[.int .i64 S.most, .int .i64 S.last, .map (some bm)] : Array Value)[j]? := blk_at h.blk j
theorem RT.fz {w : World} {F : Nat → Prop} {b bm : Nat} {V : Int → Value} {S : St} (h : RT w F b bm V S) (j : Nat) : w.frozen? ⟨b, j, none⟩ = false := blk_free h.blk j
theorem RT.ne {w : World} {F : Nat → Prop} {b bm : Nat} {V : Int → Value} {S : St} (h : RT w F b bm V S) : b ≠ bm := fun e => by
  obtain ⟨es, clock, h1, _⟩ := h.mp
  rw [← e, h.blk] at h1; simp at h1
/-- what a call leaves: the new table, its bytes' blocks are old ones and new ones; all else is as it was -/
structure TAct (w w' : World) (F F' : Nat → Prop) (b bm : Nat) (V' : Int → Value) (S' : St) : Prop where
  rt : RT w' F' b bm V' S'
  kept : KeptIn (fun g => g = b ∨ g = bm) w w'
  new : ∀ g, F' g → F g ∨ w.heap.size ≤ g
theorem drew_kept {S : Nat → Prop} {w w' : World} (h : KeptIn S w w') (q : Nat) : KeptIn S w (w'.drewN q) := ⟨h.os, h.tape, h.output, h.size, h.block⟩
end Go.Proofs.Ytoabigjajnikcaa
