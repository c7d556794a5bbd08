import Derived.Test.YtbamjfnjenmdaaaGreatG18
import Derived.Test.YtbamjfnjenmdaaaGreatProg
import Derived.WalkKit
import Derived.Defers
import Derived.Recover
import Derived.RegionTactic
import Derived.Laws.Pointers
import Derived.Laws.Rows
import Derived.Maps.OwnSet
import Derived.OwnWalk
import Derived.Deep.Draws
namespace Go.Proofs.YtbamjfnjenmdaaaGreat.I
open Go.RowKit Go.Maps
set_option linter.unusedVariables false
set_option linter.unusedSimpArgs false
set_option maxRecDepth 100000

abbrev TPl : TypeId := 146
abbrev TOrd : TypeId := 149
abbrev TKey : TypeId := 3
abbrev TMp : TypeId := 147
abbrev TPt : TypeId := 144
/-- a key, and a key that can be -/
abbrev kv (k : Int) : Value := .int .i64 k
abbrev kl (k : Int) : Lit := .int .i64 k
abbrev wfK (k : Int) : Prop := (Lit.int .i64 k).wf = true
theorem keyed : Keyed Tryz.prog TKey := int_keyed Tryz.underlying3
theorem keyAt {k : Int} (h : wfK k) : keyOf Tryz.prog TKey (kv k) = some (kl k) := keyOf_int_mk Tryz.underlying3 h
theorem kl_inj {k k' : Int} (h : kl k = kl k') : k = k' := by simpa [kl] using h

/-- an element of the map: a pointer to a place -/
def ptrE : Value → Option (DataW Unit × List MemPlace)
  | .pointer none => some (.nil, [])
  | .pointer (some ⟨b, 0, none⟩) => some (.lit (.int .i64 b), [])
  | _ => none
theorem ptrE_nil {v : Value} {ps : List MemPlace} (h : ptrE v = some (.nil, ps)) : v = .pointer none := by
  unfold ptrE at h
  split at h
  · rfl
  · simp at h
  · cases h
theorem ptrE_some {v : Value} {b : Nat} {ps : List MemPlace} (h : ptrE v = some (.lit (.int .i64 b), ps)) : v = .pointer (some ⟨b, 0, none⟩) := by
  unfold ptrE at h
  split at h
  · simp at h
  · simp only [Option.some.injEq, Prod.mk.injEq, DataW.lit.injEq, Lit.int.injEq] at h
    obtain ⟨⟨_, h⟩, _⟩ := h
    have : ‹Nat› = b := by omega
    subst this; rfl
  · cases h

structure Ent where
  key : Int
  pins : Nat
  blk : Nat
def plc (k : Int) (pins o n : Nat) : Obj := .cells #[kv k, .int .i64 pins, .pointer (some ⟨o, 0, none⟩), .pointer (some ⟨n, 0, none⟩)] TPl (0, 0)
def fp (bo bm g : Nat) (L : List Ent) : List Nat := bo :: bm :: g :: L.map (·.blk)
/-- what is told of the map -/
structure MapOk (L : List Ent) (D : DataW Unit) : Prop where
  at_ : ∀ e ∈ L, D.atKey (kl e.key) .nil = .lit (.int .i64 e.blk)
  has_ : ∀ e ∈ L, Maps.has D (kl e.key) = true
  no : ∀ k, (∀ e ∈ L, e.key ≠ k) → Maps.has D (kl k) = false
  size : Maps.size D = L.length
/-- an order in memory -/
structure RO (w : World) (bo bm g : Nat) (L : List Ent) : Prop where
  ord : w.heap[bo]? = some (.cells #[.map (some bm), .pointer (some ⟨g, 0, none⟩)] TOrd (0, 0))
  rg : ∃ nx pv, RingL nx pv g (L.map (·.blk)) ∧ w.heap[g]? = some (plc 0 0 (pv g) (nx g)) ∧ ∀ e ∈ L, w.heap[e.blk]? = some (plc e.key e.pins (pv e.blk) (nx e.blk))
  mp : ∃ n D, w.ownsMap Tryz.prog TKey ptrE bm n D ∧ MapOk L D
  kd : (L.map (·.key)).Nodup
  wf : ∀ e ∈ L, wfK e.key
  pm : ∀ e ∈ L, e.pins ≤ 2147483647

/-- all is as it was but for some blocks -/
structure Kp (w w' : World) (F : List Nat) : Prop where
  os : w'.os = w.os
  tape : w'.tape = w.tape
  output : w'.output = w.output
  size : w.heap.size ≤ w'.heap.size
  block : ∀ i, i < w.heap.size → i ∉ F → w'.heap[i]? = w.heap[i]?
theorem Kp.refl (w : World) (F : List Nat) : Kp w w F := ⟨rfl, rfl, rfl, Nat.le_refl _, fun _ _ _ => rfl⟩
theorem Kp.trans {w w1 w2 : World} {F F' : List Nat} (h : Kp w w1 F) (h' : Kp w1 w2 F') (hF : ∀ i ∈ F', i ∈ F ∨ w.heap.size ≤ i) : Kp w w2 F :=
  ⟨h'.os.trans h.os, h'.tape.trans h.tape, h'.output.trans h.output, Nat.le_trans h.size h'.size, fun i hi hn => (h'.block i (Nat.lt_of_lt_of_le hi h.size) (fun hm => (hF i hm).elim hn (fun h => by omega))).trans (h.block i hi hn)⟩
theorem Kp.below {w w' : World} {F : List Nat} {B : Nat} (h : Kp w w' F) (hB : ∀ i ∈ F, B ≤ i) (hw : B ≤ w.heap.size) : Below B w w' :=
  ⟨h.os, h.tape, h.output, h.size, fun i hi => h.block i (by omega) (fun hm => by have := hB i hm; omega)⟩
theorem Kp.of_below {w w' : World} (h : Below w.heap.size w w') (F : List Nat) : Kp w w' F := ⟨h.os, h.tape, h.output, h.size, fun i hi _ => h.block i hi⟩
theorem RO.lt {w : World} {bo bm g : Nat} {L : List Ent} (h : RO w bo bm g L) : ∀ i ∈ fp bo bm g L, i < w.heap.size := by
  intro i hi
  simp only [fp, List.mem_cons, List.mem_map] at hi
  obtain ⟨nx, pv, hr, hg, hp⟩ := h.rg
  obtain ⟨n, D, hm, _⟩ := h.mp
  rcases hi with rfl | rfl | rfl | ⟨e, he, rfl⟩
  · exact (Array.getElem?_eq_some_iff.1 h.ord).1
  · exact hm.lt
  · exact (Array.getElem?_eq_some_iff.1 hg).1
  · exact (Array.getElem?_eq_some_iff.1 (hp e he)).1
theorem ownsMap_block {w w' : World} {b n : Nat} {D : DataW Unit} (h : w.ownsMap Tryz.prog TKey ptrE b n D) (hb : w'.heap[b]? = w.heap[b]?) : w'.ownsMap Tryz.prog TKey ptrE b n D := by
  obtain ⟨es, clock, h1, h2, h3, h4⟩ := h
  exact ⟨es, clock, hb.trans h1, h2, h3, h4⟩
theorem RO.same {w w' : World} {bo bm g : Nat} {L : List Ent} (h : RO w bo bm g L) (hs : ∀ i ∈ fp bo bm g L, w'.heap[i]? = w.heap[i]?) : RO w' bo bm g L := by
  obtain ⟨nx, pv, hr, hg, hp⟩ := h.rg
  obtain ⟨n, D, hm, ho⟩ := h.mp
  refine ⟨(hs bo (by simp [fp])).trans h.ord, ⟨nx, pv, hr, (hs g (by simp [fp])).trans hg, fun e he => (hs e.blk (by simp only [fp, List.mem_cons, List.mem_map]; exact .inr (.inr (.inr ⟨e, he, rfl⟩)))).trans (hp e he)⟩, ⟨n, D, ownsMap_block hm (hs bm (by simp [fp])), ho⟩, h.kd, h.wf, h.pm⟩
theorem RO.kept {w w' : World} {bo bm g : Nat} {L : List Ent} {F : List Nat} (h : RO w bo bm g L) (hk : Kp w w' F) (hd : ∀ i ∈ fp bo bm g L, i ∉ F) : RO w' bo bm g L :=
  h.same fun i hi => hk.block i (h.lt i hi) (hd i hi)
theorem RO.later {w w' : World} {bo bm g : Nat} {L : List Ent} (h : RO w bo bm g L) (hb : Below w.heap.size w w') : RO w' bo bm g L :=
  h.same fun i hi => hb.block i (h.lt i hi)
/-- the count is the size -/
theorem ownsMap_tight {w : World} {b n : Nat} {D : DataW Unit} (h : w.ownsMap Tryz.prog TKey ptrE b n D) : w.ownsMap Tryz.prog TKey ptrE b (Maps.size D) D := by
  obtain ⟨es, clock, h1, h2, h3, h4⟩ := h
  refine ⟨es, clock, h1, h2, ?_, h4⟩
  rw [h4, Maps.size_eq, length_read]
  exact Nat.le_refl _
theorem cell_of {w : World} {b j : Nat} {cs : Array Value} {T : TypeId} (h : w.heap[b]? = some (.cells cs T (0, 0))) : w.cell? ⟨b, j, none⟩ = cs[j]? := by
  unfold World.cell?; rw [h]; simp
theorem frozen_of {w : World} {b j : Nat} {cs : Array Value} {T : TypeId} (h : w.heap[b]? = some (.cells cs T (0, 0))) : w.frozen? ⟨b, j, none⟩ = false := by
  unfold World.frozen?; rw [h]; simp
end Go.Proofs.YtbamjfnjenmdaaaGreat.I

namespace Go.Proofs.YtbamjfnjenmdaaaGreat.I
open Go.RowKit Go.Maps
attribute [local go_sem] Oper.semAt_some
set_option linter.unusedVariables false
set_option linter.unusedSimpArgs false
set_option maxRecDepth 100000

theorem usable_nil (w : World) : Calls Tryz.prog 107 #[.pointer none] w fun e w' => e = .returned (.bool false) ∧ w' = w := by
  go_enter Tryz.func107, Tryz.ntmps107
  go_wp2
  go_ret
  exact ⟨rfl, rfl⟩
theorem neq_nil (w : World) : (binOp .neq TMp (.map none) (.map none)).run Tryz.prog w = .ok (.bool false) w := rfl
theorem neq_some (w : World) (b : Nat) : (binOp .neq TMp (.map (some b)) (.map none)).run Tryz.prog w = .ok (.bool true) w := rfl
theorem usable_plain (b : Nat) (w : World) (h : w.cell? ⟨b, 0, none⟩ = some (.map none)) : Calls Tryz.prog 107 #[.pointer (some ⟨b, 0, none⟩)] w fun e w' => e = .returned (.bool false) ∧ w' = w := by
  have q := neq_nil
  go_enter Tryz.func107, Tryz.ntmps107
  go_wp2
  go_ret
  exact ⟨rfl, rfl⟩
theorem usable_any {w : World} {bo bm g : Nat} {L : List Ent} (h : RO w bo bm g L) : Calls Tryz.prog 107 #[.pointer (some ⟨bo, 0, none⟩)] w fun e w' => e = .returned (.bool true) ∧ w' = w := by
  have h0 : w.cell? ⟨bo, 0, none⟩ = some (.map (some bm)) := (cell_of h.ord).trans rfl
  have q := neq_some
  go_enter Tryz.func107, Tryz.ntmps107
  go_wp2
  go_ret
  exact ⟨rfl, rfl⟩

/-- where a key stands -/
def look : List Ent → Int → Value
  | [], _ => .pointer none
  | e :: L, k => if e.key = k then .pointer (some ⟨e.blk, 0, none⟩) else look L k
theorem look_mem {L : List Ent} {e : Ent} (he : e ∈ L) (hn : (L.map (·.key)).Nodup) : look L e.key = .pointer (some ⟨e.blk, 0, none⟩) := by
  induction L with
  | nil => cases he
  | cons x L ih =>
    simp only [List.map_cons, List.nodup_cons, List.mem_map, not_exists, not_and] at hn
    unfold look
    rcases List.mem_cons.1 he with rfl | h
    · simp
    · rw [if_neg (fun e' => hn.1 e h e'.symm)]; exact ih h hn.2
theorem look_no {L : List Ent} {k : Int} (h : ∀ e ∈ L, e.key ≠ k) : look L k = .pointer none := by
  induction L with
  | nil => rfl
  | cons x L ih =>
    unfold look
    rw [if_neg (h x (by simp))]
    exact ih fun e he => h e (by simp [he])

theorem find1_idle (w : World) : CallsD Tryz.prog 108 #[] .returning w fun e u' w' => e = .returned (.tuple #[]) ∧ u' = .returning ∧ w' = w := by
  refine callsD_of_wpS Tryz.func108 rfl fun c₀ cs hu => ?_
  apply wpS_region
  cases c₀
  simp_all [wpOpsS, go_sem, recoverD, hu, Tryz.ntmps108, Exit.thenS, bodyPostS, results, Tryz.results108]
theorem zeroPt (w : World) : (zeroValue TPt).run Tryz.prog w = .ok (.pointer none) w := by kernel_rfl
theorem look_run {w : World} {bo bm g : Nat} {L : List Ent} (h : RO w bo bm g L) {k : Int} (hk : wfK k) : (Instr.lookup TMp (.map (some bm)) (kv k) false).run Tryz.prog w = .ok (look L k) w := by
  obtain ⟨n, D, hm, ho⟩ := h.mp
  obtain ⟨v, ps, hr, hv⟩ := hm.lookup keyed Tryz.underlying147 (zeroPt w) (zd := .nil) (zp := []) rfl (keyAt hk)
  rw [hr]
  congr 1
  by_cases hin : ∃ e ∈ L, e.key = k
  · obtain ⟨e, he, rfl⟩ := hin
    rw [ho.at_ e he] at hv
    rw [look_mem he h.kd]
    exact ptrE_some hv
  · have hno : ∀ e ∈ L, e.key ≠ k := fun e he hk => hin ⟨e, he, hk⟩
    rw [atKey_of_not_has (ho.no k hno)] at hv
    rw [look_no hno]
    exact ptrE_nil hv
theorem find_no (p : Option Addr) (k : Value) (w : World) (h : Calls Tryz.prog 107 #[.pointer p] w fun e w' => e = .returned (.bool false) ∧ w' = w) :
    Calls Tryz.prog 71 #[.pointer p, k] w fun e w' => e = .returned (.tuple #[.pointer none, .bool false]) ∧ w' = w := by
  go_enter_defers Tryz.func71, Tryz.ntmps71
  go_wp2_with (go_at_call 107; refine h.mono ?_; rintro e w9 ⟨rfl, hw9⟩; rw [hw9]; clear hw9)
  simp [bodyPostD, Leaves, settle, results, Tryz.results71, go_sem]
theorem find_any {w : World} {bo bm g : Nat} {L : List Ent} (h : RO w bo bm g L) {k : Int} (hk : wfK k) :
    Calls Tryz.prog 71 #[.pointer (some ⟨bo, 0, none⟩), kv k] w fun e w' => e = .returned (.tuple #[look L k, .bool true]) ∧ w' = w := by
  have hmf : ∀ (fn : Fn) (first cap : Array Value) (w : World), (Instr.makeFunc fn first cap).run Tryz.prog w = .ok (.func fn first cap) w := fun _ _ _ _ => rfl
  have h0 : w.cell? ⟨bo, 0, none⟩ = some (.map (some bm)) := (cell_of h.ord).trans rfl
  have hlk := look_run h hk
  go_enter_defers Tryz.func71, Tryz.ntmps71
  go_wp2_with (go_at_call 107; refine (usable_any h).mono ?_; rintro e w9 ⟨rfl, hw9⟩; rw [hw9]; clear hw9)
  refine leaves_cons (f := 108) (args := #[]) (by simp) (by simp [go_sem]) ?_
  refine (find1_idle _).mono ?_
  rintro e u' w'' ⟨rfl, rfl, rfl⟩
  simp [Leaves, settle, results, Tryz.results71, go_sem]
end Go.Proofs.YtbamjfnjenmdaaaGreat.I

namespace Go.Proofs.YtbamjfnjenmdaaaGreat.I
open Go.RowKit Go.Maps
attribute [local go_sem] Oper.semAt_some
set_option linter.unusedVariables false
set_option linter.unusedSimpArgs false
set_option maxRecDepth 100000

theorem plc_o {w : World} {c : Nat} {k : Int} {n : Nat} {pv nx : Nat → Nat} (h : w.heap[c]? = some (plc k n (pv c) (nx c))) (a b : Nat) : (w.setCell ⟨a, 2, none⟩ (.pointer (some ⟨b, 0, none⟩))).heap[c]? = some (plc k n (upd pv a b c) (nx c)) := by
  by_cases e : c = a
  · subst e; rw [upd_same]; rw [heap_setCell_same _ _ _ _ _ _ h]; rfl
  · rw [heap_setCell_other _ _ _ _ e, upd_other e, h]
theorem plc_n {w : World} {c : Nat} {k : Int} {n : Nat} {pv nx : Nat → Nat} (h : w.heap[c]? = some (plc k n (pv c) (nx c))) (a b : Nat) : (w.setCell ⟨a, 3, none⟩ (.pointer (some ⟨b, 0, none⟩))).heap[c]? = some (plc k n (pv c) (upd nx a b c)) := by
  by_cases e : c = a
  · subst e; rw [upd_same]; rw [heap_setCell_same _ _ _ _ _ _ h]; rfl
  · rw [heap_setCell_other _ _ _ _ e, upd_other e, h]
theorem Kp.set {w w' : World} {F : List Nat} (h : Kp w w' F) {a : Addr} (ha : a.block ∈ F ∨ w.heap.size ≤ a.block) (v : Value) : Kp w (w'.setCell a v) F :=
  ⟨h.os, h.tape, h.output, by rw [World.size_setCell]; exact h.size, fun i hi hn => by rw [heap_setCell_other _ _ _ _ (fun e => by subst e; exact ha.elim (fun h => hn h) (fun h => by omega))]; exact h.block i hi hn⟩

theorem Kp.drew {w w' : World} {F : List Nat} (h : Kp w w' F) : Kp w w'.drew F := ⟨h.os, h.tape, h.output, h.size, h.block⟩
/-- the ring alone -/
def Rg (w : World) (g : Nat) (L : List Ent) : Prop := ∃ nx pv, RingL nx pv g (L.map (·.blk)) ∧ w.heap[g]? = some (plc 0 0 (pv g) (nx g)) ∧ ∀ e ∈ L, w.heap[e.blk]? = some (plc e.key e.pins (pv e.blk) (nx e.blk))

theorem enter_run {w : World} {p g o : Nat} {c0 c1 a b : Value} {k : Int} {n x : Nat} (hp : w.heap[p]? = some (.cells #[c0, c1, a, b] TPl (0, 0))) (hg : w.heap[g]? = some (plc k n o x)) (hpg : p ≠ g) (ho : ∃ k' n' o' x', w.heap[o]? = some (plc k' n' o' x')) (hop : o ≠ p) :
    Calls Tryz.prog 73 #[.pointer (some ⟨p, 0, none⟩), .pointer (some ⟨g, 0, none⟩)] w fun e w' => e = .returned (.tuple #[]) ∧ w' = ((((w.setCell ⟨p, 2, none⟩ (.pointer (some ⟨o, 0, none⟩))).setCell ⟨p, 3, none⟩ (.pointer (some ⟨g, 0, none⟩))).setCell ⟨o, 3, none⟩ (.pointer (some ⟨p, 0, none⟩))).setCell ⟨g, 2, none⟩ (.pointer (some ⟨p, 0, none⟩))) := by
  have p2 : w.cell? ⟨p, 2, none⟩ = some a := (cell_of hp).trans rfl
  have p3 : w.cell? ⟨p, 3, none⟩ = some b := (cell_of hp).trans rfl
  have pf2 : w.frozen? ⟨p, 2, none⟩ = false := frozen_of hp
  have pf3 : w.frozen? ⟨p, 3, none⟩ = false := frozen_of hp
  have g2 : w.cell? ⟨g, 2, none⟩ = some (.pointer (some ⟨o, 0, none⟩)) := (cell_of hg).trans rfl
  have gf2 : w.frozen? ⟨g, 2, none⟩ = false := frozen_of hg
  obtain ⟨k', n', o', x', ho⟩ := ho
  have o3 : w.cell? ⟨o, 3, none⟩ = some (.pointer (some ⟨x', 0, none⟩)) := (cell_of ho).trans rfl
  have of3 : w.frozen? ⟨o, 3, none⟩ = false := frozen_of ho
  have gp : g ≠ p := fun e => hpg e.symm
  clear hp hg ho
  go_enter Tryz.func73, Tryz.ntmps73
  go_wp2
  go_end0
  exact ⟨rfl, rfl⟩
theorem enter_any {w : World} {p g : Nat} {L : List Ent} {k : Int} {n : Nat} {a b : Value} (hr : Rg w g L) (hp : w.heap[p]? = some (.cells #[kv k, .int .i64 n, a, b] TPl (0, 0))) (hn : p ∉ g :: L.map (·.blk)) :
    Calls Tryz.prog 73 #[.pointer (some ⟨p, 0, none⟩), .pointer (some ⟨g, 0, none⟩)] w fun e w' => e = .returned (.tuple #[]) ∧ Rg w' g (L ++ [⟨k, n, p⟩]) ∧ Kp w w' (p :: g :: L.map (·.blk)) := by
  obtain ⟨nx, pv, rl, hg, hL⟩ := hr
  have hpg : p ≠ g := fun e => hn (by simp [e])
  have ho := rl.pvg
  have hall : ∀ c ∈ g :: L.map (·.blk), ∃ k' n', w.heap[c]? = some (plc k' n' (pv c) (nx c)) := by
    intro c hc
    rcases List.mem_cons.1 hc with rfl | hc
    · exact ⟨_, _, hg⟩
    · obtain ⟨e, he, rfl⟩ := List.mem_map.1 hc
      exact ⟨_, _, hL e he⟩
  obtain ⟨k', n', hpo⟩ := hall _ ho
  refine (enter_run hp hg hpg ⟨_, _, _, _, hpo⟩ (fun e => hn (e ▸ ho))).mono ?_
  rintro e w' ⟨rfl, rfl⟩
  refine ⟨rfl, ⟨_, _, by rw [List.map_append]; exact rl.enter hn, ?_, ?_⟩, ?_⟩
  · have h1 : ((w.setCell ⟨p, 2, none⟩ (.pointer (some ⟨pv g, 0, none⟩))).setCell ⟨p, 3, none⟩ (.pointer (some ⟨g, 0, none⟩))).heap[g]? = some (plc 0 0 (upd pv p (pv g) g) (upd nx p g g)) := plc_n (pv := upd pv p (pv g)) (plc_o hg _ _) _ _
    exact plc_o (nx := upd (upd nx p g) (pv g) p) (plc_n (pv := upd pv p (pv g)) h1 _ _) _ _
  · intro e he
    rcases List.mem_append.1 he with he | he
    · have h1 : ((w.setCell ⟨p, 2, none⟩ (.pointer (some ⟨pv g, 0, none⟩))).setCell ⟨p, 3, none⟩ (.pointer (some ⟨g, 0, none⟩))).heap[e.blk]? = some (plc e.key e.pins (upd pv p (pv g) e.blk) (upd nx p g e.blk)) := plc_n (pv := upd pv p (pv g)) (plc_o (hL e he) _ _) _ _
      exact plc_o (nx := upd (upd nx p g) (pv g) p) (plc_n (pv := upd pv p (pv g)) h1 _ _) _ _
    · simp only [List.mem_singleton] at he
      subst he
      have h0 : (w.setCell ⟨p, 2, none⟩ (.pointer (some ⟨pv g, 0, none⟩))).heap[p]? = some (.cells #[kv k, .int .i64 n, .pointer (some ⟨pv g, 0, none⟩), b] TPl (0, 0)) := by rw [heap_setCell_same _ _ _ _ _ _ hp]; rfl
      have h1 : ((w.setCell ⟨p, 2, none⟩ (.pointer (some ⟨pv g, 0, none⟩))).setCell ⟨p, 3, none⟩ (.pointer (some ⟨g, 0, none⟩))).heap[p]? = some (plc k n (upd pv p (pv g) p) (upd nx p g p)) := by rw [heap_setCell_same _ _ _ _ _ _ h0, upd_same, upd_same]; rfl
      exact plc_o (nx := upd (upd nx p g) (pv g) p) (plc_n (pv := upd pv p (pv g)) h1 _ _) _ _
  · exact ((((Kp.refl w _).set (.inl (by simp)) _).set (.inl (by simp)) _).set (.inl (List.mem_cons_of_mem _ ho)) _).set (.inl (by simp)) _

theorem leave_run {w : World} {p x y : Nat} {k : Int} {n : Nat} (hp : w.heap[p]? = some (plc k n x y)) (hx : ∃ k' n' o' x', w.heap[x]? = some (plc k' n' o' x')) (hy : ∃ k' n' o' x', w.heap[y]? = some (plc k' n' o' x')) (hxp : x ≠ p) (hyp : y ≠ p) :
    Calls Tryz.prog 72 #[.pointer (some ⟨p, 0, none⟩)] w fun e w' => e = .returned (.tuple #[]) ∧ w' = ((w.setCell ⟨x, 3, none⟩ (.pointer (some ⟨y, 0, none⟩))).setCell ⟨y, 2, none⟩ (.pointer (some ⟨x, 0, none⟩))).drew := by
  have p2 : w.cell? ⟨p, 2, none⟩ = some (.pointer (some ⟨x, 0, none⟩)) := (cell_of hp).trans rfl
  have p3 : w.cell? ⟨p, 3, none⟩ = some (.pointer (some ⟨y, 0, none⟩)) := (cell_of hp).trans rfl
  obtain ⟨k', n', o', x', hx⟩ := hx
  have x3 : w.cell? ⟨x, 3, none⟩ = some (.pointer (some ⟨x', 0, none⟩)) := (cell_of hx).trans rfl
  have xf3 : w.frozen? ⟨x, 3, none⟩ = false := frozen_of hx
  obtain ⟨k2, n2, o2, x2, hy⟩ := hy
  have y2 : w.cell? ⟨y, 2, none⟩ = some (.pointer (some ⟨o2, 0, none⟩)) := (cell_of hy).trans rfl
  have yf2 : w.frozen? ⟨y, 2, none⟩ = false := frozen_of hy
  clear hp hx hy
  go_enter Tryz.func72, Tryz.ntmps72
  go_wp2
  go_region
  all_goals go_wp2
  all_goals go_end0
  all_goals exact ⟨rfl, rfl⟩
theorem leave_any {w : World} {g : Nat} {L1 L2 : List Ent} {e : Ent} (hr : Rg w g (L1 ++ e :: L2)) :
    Calls Tryz.prog 72 #[.pointer (some ⟨e.blk, 0, none⟩)] w fun r w' => r = .returned (.tuple #[]) ∧ Rg w' g (L1 ++ L2) ∧ (∃ a b, w'.heap[e.blk]? = some (.cells #[kv e.key, .int .i64 e.pins, a, b] TPl (0, 0))) ∧ Kp w w' (g :: (L1 ++ L2).map (·.blk)) := by
  obtain ⟨nx, pv, rl, hg, hL⟩ := hr
  have hall : ∀ c ∈ g :: (L1 ++ e :: L2).map (·.blk), ∃ k' n' o' x', w.heap[c]? = some (plc k' n' o' x') := by
    intro c hc
    rcases List.mem_cons.1 hc with rfl | hc
    · exact ⟨_, _, _, _, hg⟩
    · obtain ⟨e, he, rfl⟩ := List.mem_map.1 hc
      exact ⟨_, _, _, _, hL e he⟩
  rw [List.map_append, List.map_cons] at rl
  obtain ⟨hx, hy⟩ := rl.mid
  have nd := rl.nd
  simp only [List.nodup_cons, List.mem_append, List.mem_cons, not_or, List.nodup_append] at nd
  obtain ⟨⟨g1, g2, g3⟩, n1, ⟨n2, n3⟩, n4⟩ := nd
  have hxp : pv e.blk ≠ e.blk := by
    intro h
    rw [h] at hx
    rcases List.mem_cons.1 hx with h | h
    · exact g2 h.symm
    · exact n4 _ h _ (.inl rfl) rfl
  have hyp : nx e.blk ≠ e.blk := by
    intro h
    rw [h] at hy
    rcases List.mem_append.1 hy with h | h
    · exact n2 h
    · simp only [List.mem_singleton] at h; exact g2 h.symm
  have hx' : pv e.blk ∈ g :: (L1 ++ L2).map (·.blk) := by
    rw [List.map_append]; rcases List.mem_cons.1 hx with h | h
    · rw [h]; simp
    · exact List.mem_cons_of_mem _ (List.mem_append_left _ h)
  have hy' : nx e.blk ∈ g :: (L1 ++ L2).map (·.blk) := by
    rw [List.map_append]; rcases List.mem_append.1 hy with h | h
    · exact List.mem_cons_of_mem _ (List.mem_append_right _ h)
    · simp only [List.mem_singleton] at h; rw [h]; simp
  have hsub : ∀ c ∈ g :: (L1 ++ L2).map (·.blk), c ∈ g :: (L1 ++ e :: L2).map (·.blk) := by
    intro c hc
    simp only [List.map_append, List.map_cons, List.mem_cons, List.mem_append] at hc ⊢
    rcases hc with h | h | h
    · exact .inl h
    · exact .inr (.inl h)
    · exact .inr (.inr (.inr h))
  refine (leave_run (hL e (by simp)) (hall _ (hsub _ hx')) (hall _ (hsub _ hy')) hxp hyp).mono ?_
  rintro r w' ⟨rfl, rfl⟩
  refine ⟨rfl, ⟨_, _, by rw [List.map_append]; exact rl.leave, ?_, ?_⟩, ⟨.pointer (some ⟨pv e.blk, 0, none⟩), .pointer (some ⟨nx e.blk, 0, none⟩), ?_⟩, ?_⟩
  · exact plc_o (nx := upd nx (pv e.blk) (nx e.blk)) (plc_n hg _ _) _ _
  · intro c hc
    exact plc_o (nx := upd nx (pv e.blk) (nx e.blk)) (plc_n (hL c (by rcases List.mem_append.1 hc with h | h <;> simp [h])) _ _) _ _
  · show ((w.setCell ⟨pv e.blk, 3, none⟩ (.pointer (some ⟨nx e.blk, 0, none⟩))).setCell ⟨nx e.blk, 2, none⟩ (.pointer (some ⟨pv e.blk, 0, none⟩))).heap[e.blk]? = _
    rw [heap_setCell_other _ _ _ _ (fun h => hyp h.symm), heap_setCell_other _ _ _ _ (fun h => hxp h.symm)]; exact hL e (by simp)
  · exact (((Kp.refl w _).set (.inl hx') _).set (.inl hy') _).drew
end Go.Proofs.YtbamjfnjenmdaaaGreat.I
