import Derived.Test.YtijimcjmpeakpaaGreatRM
import Derived.Test.YtijimcjmpeakpaaGreatProg
import Derived.WalkKit
import Derived.Defers
import Derived.Recover
import Derived.RegionTactic
import Derived.Laws.Pointers
import Derived.Laws.Rows
import Derived.Maps.OwnSet
import Derived.OwnWalk
namespace Go.Proofs.YtijimcjmpeakpaaGreat.I
open Go.RowKit Go.Maps
set_option linter.unusedVariables false
set_option linter.unusedSimpArgs false
set_option maxRecDepth 100000

abbrev TPl : TypeId := 146
abbrev TOrd : TypeId := 149
abbrev TKey : TypeId := 3
abbrev TMp : TypeId := 147
abbrev TPt : TypeId := 144
/-- a key, and a key that can be -/
abbrev kv (k : Int) : Value := .int .i64 k
abbrev kl (k : Int) : Lit := .int .i64 k
abbrev wfK (k : Int) : Prop := (Lit.int .i64 k).wf = true
theorem keyed : Keyed Tryz.prog TKey := int_keyed Tryz.underlying3
theorem keyAt {k : Int} (h : wfK k) : keyOf Tryz.prog TKey (kv k) = some (kl k) := keyOf_int_mk Tryz.underlying3 h
theorem kl_inj {k k' : Int} (h : kl k = kl k') : k = k' := by simpa [kl] using h

/-- an element of the map: a pointer to a place -/
def ptrE : Value → Option (DataW Unit × List MemPlace)
  | .pointer none => some (.nil, [])
  | .pointer (some ⟨b, 0, none⟩) => some (.lit (.int .i64 b), [])
  | _ => none
theorem ptrE_nil {v : Value} {ps : List MemPlace} (h : ptrE v = some (.nil, ps)) : v = .pointer none := by
  unfold ptrE at h
  split at h
  · rfl
  · simp at h
  · cases h
theorem ptrE_some {v : Value} {b : Nat} {ps : List MemPlace} (h : ptrE v = some (.lit (.int .i64 b), ps)) : v = .pointer (some ⟨b, 0, none⟩) := by
  unfold ptrE at h
  split at h
  · simp at h
  · simp only [Option.some.injEq, Prod.mk.injEq, DataW.lit.injEq, Lit.int.injEq] at h
    obtain ⟨⟨_, h⟩, _⟩ := h
    have : ‹Nat› = b := by omega
    subst this; rfl
  · cases h

structure Ent where
  key : Int
  pins : Nat
  blk : Nat
def plc (k : Int) (pins o n : Nat) : Obj := .cells #[kv k, .int .i64 pins, .pointer (some ⟨o, 0, none⟩), .pointer (some ⟨n, 0, none⟩)] TPl (0, 0)
def fp (bo bm g : Nat) (L : List Ent) : List Nat := bo :: bm :: g :: L.map (·.blk)
/-- what is told of the map -/
structure MapOk (L : List Ent) (D : DataW Unit) : Prop where
  at_ : ∀ e ∈ L, D.atKey (kl e.key) .nil = .lit (.int .i64 e.blk)
  has_ : ∀ e ∈ L, Maps.has D (kl e.key) = true
  no : ∀ k, (∀ e ∈ L, e.key ≠ k) → Maps.has D (kl k) = false
  size : Maps.size D = L.length
/-- an order in memory -/
structure RO (w : World) (bo bm g : Nat) (L : List Ent) : Prop where
  ord : w.heap[bo]? = some (.cells #[.map (some bm), .pointer (some ⟨g, 0, none⟩)] TOrd (0, 0))
  rg : ∃ nx pv, RingL nx pv g (L.map (·.blk)) ∧ w.heap[g]? = some (plc 0 0 (pv g) (nx g)) ∧ ∀ e ∈ L, w.heap[e.blk]? = some (plc e.key e.pins (pv e.blk) (nx e.blk))
  mp : ∃ n D, w.ownsMap Tryz.prog TKey ptrE bm n D ∧ MapOk L D
  kd : (L.map (·.key)).Nodup
  wf : ∀ e ∈ L, wfK e.key
  pm : ∀ e ∈ L, e.pins ≤ 2147483647

/-- all is as it was but for some blocks -/
structure Kp (w w' : World) (F : List Nat) : Prop where
  os : w'.os = w.os
  tape : w'.tape = w.tape
  output : w'.output = w.output
  size : w.heap.size ≤ w'.heap.size
  block : ∀ i, i < w.heap.size → i ∉ F → w'.heap[i]? = w.heap[i]?
theorem Kp.refl (w : World) (F : List Nat) : Kp w w F := ⟨rfl, rfl, rfl, Nat.le_refl _, fun _ _ _ => rfl⟩
theorem Kp.trans {w w1 w2 : World} {F F' : List Nat} (h : Kp w w1 F) (h' : Kp w1 w2 F') (hF : ∀ i ∈ F', i ∈ F ∨ w.heap.size ≤ i) : Kp w w2 F :=
  ⟨h'.os.trans h.os, h'.tape.trans h.tape, h'.output.trans h.output, Nat.le_trans h.size h'.size, fun i hi hn => (h'.block i (Nat.lt_of_lt_of_le hi h.size) (fun hm => (hF i hm).elim hn (fun h => by omega))).trans (h.block i hi hn)⟩
theorem Kp.below {w w' : World} {F : List Nat} {B : Nat} (h : Kp w w' F) (hB : ∀ i ∈ F, B ≤ i) (hw : B ≤ w.heap.size) : Below B w w' :=
  ⟨h.os, h.tape, h.output, h.size, fun i hi => h.block i (by omega) (fun hm => by have := hB i hm; omega)⟩
theorem Kp.of_below {w w' : World} (h : Below w.heap.size w w') (F : List Nat) : Kp w w' F := ⟨h.os, h.tape, h.output, h.size, fun i hi _ => h.block i hi⟩
theorem RO.lt {w : World} {bo bm g : Nat} {L : List Ent} (h : RO w bo bm g L) : ∀ i ∈ fp bo bm g L, i < w.heap.size := by
  intro i hi
  simp only [fp, List.mem_cons, List.mem_map] at hi
  obtain ⟨nx, pv, hr, hg, hp⟩ := h.rg
  obtain ⟨n, D, hm, _⟩ := h.mp
  rcases hi with rfl | rfl | rfl | ⟨e, he, rfl⟩
  · exact (Array.getElem?_eq_some_iff.1 h.ord).1
  · exact hm.lt
  · exact (Array.getElem?_eq_some_iff.1 hg).1
  · exact (Array.getElem?_eq_some_iff.1 (hp e he)).1
theorem ownsMap_block {w w' : World} {b n : Nat} {D : DataW Unit} (h : w.ownsMap Tryz.prog TKey ptrE b n D) (hb : w'.heap[b]? = w.heap[b]?) : w'.ownsMap Tryz.prog TKey ptrE b n D := by
  obtain ⟨es, clock, h1, h2, h3, h4⟩ := h
  exact ⟨es, clock, hb.trans h1, h2, h3, h4⟩
theorem RO.same {w w' : World} {bo bm g : Nat} {L : List Ent} (h : RO w bo bm g L) (hs : ∀ i ∈ fp bo bm g L, w'.heap[i]? = w.heap[i]?) : RO w' bo bm g L := by
  obtain ⟨nx, pv, hr, hg, hp⟩ := h.rg
  obtain ⟨n, D, hm, ho⟩ := h.mp
  refine ⟨(hs bo (by simp [fp])).trans h.ord, ⟨nx, pv, hr, (hs g (by simp [fp])).trans hg, fun e he => (hs e.blk (by simp only [fp, List.mem_cons, List.mem_map]; exact .inr (.inr (.inr ⟨e, he, rfl⟩)))).trans (hp e he)⟩, ⟨n, D, ownsMap_block hm (hs bm (by simp [fp])), ho⟩, h.kd, h.wf, h.pm⟩
theorem RO.kept {w w' : World} {bo bm g : Nat} {L : List Ent} {F : List Nat} (h : RO w bo bm g L) (hk : Kp w w' F) (hd : ∀ i ∈ fp bo bm g L, i ∉ F) : RO w' bo bm g L :=
  h.same fun i hi => hk.block i (h.lt i hi) (hd i hi)
theorem RO.later {w w' : World} {bo bm g : Nat} {L : List Ent} (h : RO w bo bm g L) (hb : Below w.heap.size w w') : RO w' bo bm g L :=
  h.same fun i hi => hb.block i (h.lt i hi)
/-- the count is the size -/
theorem ownsMap_tight {w : World} {b n : Nat} {D : DataW Unit} (h : w.ownsMap Tryz.prog TKey ptrE b n D) : w.ownsMap Tryz.prog TKey ptrE b (Maps.size D) D := by
  obtain ⟨es, clock, h1, h2, h3, h4⟩ := h
  refine ⟨es, clock, h1, h2, ?_, h4⟩
  rw [h4, Maps.size_eq, length_read]
  exact Nat.le_refl _
theorem cell_of {w : World} {b j : Nat} {cs : Array Value} {T : TypeId} (h : w.heap[b]? = some (.cells cs T (0, 0))) : w.cell? ⟨b, j, none⟩ = cs[j]? := by
  unfold World.cell?; rw [h]; simp
theorem frozen_of {w : World} {b j : Nat} {cs : Array Value} {T : TypeId} (h : w.heap[b]? = some (.cells cs T (0, 0))) : w.frozen? ⟨b, j, none⟩ = false := by
  unfold World.frozen?; rw [h]; simp
end Go.Proofs.YtijimcjmpeakpaaGreat.I

namespace Go.Proofs.YtijimcjmpeakpaaGreat.I
open Go.RowKit Go.Maps
attribute [local go_sem] Oper.semAt_some
set_option linter.unusedVariables false
set_option linter.unusedSimpArgs false
set_option maxRecDepth 100000

theorem usable_nil (w : World) : Calls Tryz.prog 158 #[.pointer none] w fun e w' => e = .returned (.bool false) ∧ w' = w := by
  go_enter Tryz.func158, Tryz.ntmps158
  go_wp2
  go_ret
  exact ⟨rfl, rfl⟩
theorem neq_nil (w : World) : (binOp .neq TMp (.map none) (.map none)).run Tryz.prog w = .ok (.bool false) w := rfl
theorem neq_some (w : World) (b : Nat) : (binOp .neq TMp (.map (some b)) (.map none)).run Tryz.prog w = .ok (.bool true) w := rfl
theorem usable_plain (b : Nat) (w : World) (h : w.cell? ⟨b, 0, none⟩ = some (.map none)) : Calls Tryz.prog 158 #[.pointer (some ⟨b, 0, none⟩)] w fun e w' => e = .returned (.bool false) ∧ w' = w := by
  have q := neq_nil
  go_enter Tryz.func158, Tryz.ntmps158
  go_wp2
  go_ret
  exact ⟨rfl, rfl⟩
theorem usable_any {w : World} {bo bm g : Nat} {L : List Ent} (h : RO w bo bm g L) : Calls Tryz.prog 158 #[.pointer (some ⟨bo, 0, none⟩)] w fun e w' => e = .returned (.bool true) ∧ w' = w := by
  have h0 : w.cell? ⟨bo, 0, none⟩ = some (.map (some bm)) := (cell_of h.ord).trans rfl
  have q := neq_some
  go_enter Tryz.func158, Tryz.ntmps158
  go_wp2
  go_ret
  exact ⟨rfl, rfl⟩

/-- where a key stands -/
def look : List Ent → Int → Value
  | [], _ => .pointer none
  | e :: L, k => if e.key = k then .pointer (some ⟨e.blk, 0, none⟩) else look L k
theorem look_mem {L : List Ent} {e : Ent} (he : e ∈ L) (hn : (L.map (·.key)).Nodup) : look L e.key = .pointer (some ⟨e.blk, 0, none⟩) := by
  induction L with
  | nil => cases he
  | cons x L ih =>
    simp only [List.map_cons, List.nodup_cons, List.mem_map, not_exists, not_and] at hn
    unfold look
    rcases List.mem_cons.1 he with rfl | h
    · simp
    · rw [if_neg (fun e' => hn.1 e h e'.symm)]; exact ih h hn.2
theorem look_no {L : List Ent} {k : Int} (h : ∀ e ∈ L, e.key ≠ k) : look L k = .pointer none := by
  induction L with
  | nil => rfl
  | cons x L ih =>
    unfold look
    rw [if_neg (h x (by simp))]
    exact ih fun e he => h e (by simp [he])

theorem find1_idle (w : World) : CallsD Tryz.prog 159 #[] .returning w fun e u' w' => e = .returned (.tuple #[]) ∧ u' = .returning ∧ w' = w := by
  refine callsD_of_wpS Tryz.func159 rfl fun c₀ cs hu => ?_
  apply wpS_region
  cases c₀
  simp_all [wpOpsS, go_sem, recoverD, hu, Tryz.ntmps159, Exit.thenS, bodyPostS, results, Tryz.results159]
theorem zeroPt (w : World) : (zeroValue TPt).run Tryz.prog w = .ok (.pointer none) w := by kernel_rfl
theorem look_run {w : World} {bo bm g : Nat} {L : List Ent} (h : RO w bo bm g L) {k : Int} (hk : wfK k) : (Instr.lookup TMp (.map (some bm)) (kv k) false).run Tryz.prog w = .ok (look L k) w := by
  obtain ⟨n, D, hm, ho⟩ := h.mp
  obtain ⟨v, ps, hr, hv⟩ := hm.lookup keyed Tryz.underlying147 (zeroPt w) (zd := .nil) (zp := []) rfl (keyAt hk)
  rw [hr]
  congr 1
  by_cases hin : ∃ e ∈ L, e.key = k
  · obtain ⟨e, he, rfl⟩ := hin
    rw [ho.at_ e he] at hv
    rw [look_mem he h.kd]
    exact ptrE_some hv
  · have hno : ∀ e ∈ L, e.key ≠ k := fun e he hk => hin ⟨e, he, hk⟩
    rw [atKey_of_not_has (ho.no k hno)] at hv
    rw [look_no hno]
    exact ptrE_nil hv
theorem find_no (p : Option Addr) (k : Value) (w : World) (h : Calls Tryz.prog 158 #[.pointer p] w fun e w' => e = .returned (.bool false) ∧ w' = w) :
    Calls Tryz.prog 103 #[.pointer p, k] w fun e w' => e = .returned (.tuple #[.pointer none, .bool false]) ∧ w' = w := by
  go_enter_defers Tryz.func103, Tryz.ntmps103
  go_wp2_with (go_at_call 158; refine h.mono ?_; rintro e w9 ⟨rfl, hw9⟩; rw [hw9]; clear hw9)
  simp [bodyPostD, Leaves, settle, results, Tryz.results103, go_sem]
theorem find_any {w : World} {bo bm g : Nat} {L : List Ent} (h : RO w bo bm g L) {k : Int} (hk : wfK k) :
    Calls Tryz.prog 103 #[.pointer (some ⟨bo, 0, none⟩), kv k] w fun e w' => e = .returned (.tuple #[look L k, .bool true]) ∧ w' = w := by
  have hmf : ∀ (fn : Fn) (first cap : Array Value) (w : World), (Instr.makeFunc fn first cap).run Tryz.prog w = .ok (.func fn first cap) w := fun _ _ _ _ => rfl
  have h0 : w.cell? ⟨bo, 0, none⟩ = some (.map (some bm)) := (cell_of h.ord).trans rfl
  have hlk := look_run h hk
  go_enter_defers Tryz.func103, Tryz.ntmps103
  go_wp2_with (go_at_call 158; refine (usable_any h).mono ?_; rintro e w9 ⟨rfl, hw9⟩; rw [hw9]; clear hw9)
  refine leaves_cons (f := 159) (args := #[]) (by simp) (by simp [go_sem]) ?_
  refine (find1_idle _).mono ?_
  rintro e u' w'' ⟨rfl, rfl, rfl⟩
  simp [Leaves, settle, results, Tryz.results103, go_sem]
end Go.Proofs.YtijimcjmpeakpaaGreat.I
