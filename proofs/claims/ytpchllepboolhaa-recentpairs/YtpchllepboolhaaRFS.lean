import Derived.Test.YtpchllepboolhaaRIS
namespace Go.Proofs.Ytpchllepboolhaa.S
open Go.RowKit Go.Maps
attribute [local go_sem] Oper.semAt_some
set_option linter.unusedVariables false
set_option linter.unusedSimpArgs false
set_option maxRecDepth 100000

theorem usable_nil (w : World) : Calls Try.prog 81 #[.pointer none] w fun e w' => e = .returned (.bool false) ∧ w' = w := by
  go_enter Try.func81, Try.ntmps81
  go_wp2
  go_ret
  exact ⟨rfl, rfl⟩
theorem neq_nil (w : World) : (binOp .neq TMp (.map none) (.map none)).run Try.prog w = .ok (.bool false) w := rfl
theorem neq_some (w : World) (b : Nat) : (binOp .neq TMp (.map (some b)) (.map none)).run Try.prog w = .ok (.bool true) w := rfl
theorem usable_plain (b : Nat) (w : World) (h : w.cell? ⟨b, 0, none⟩ = some (.map none)) : Calls Try.prog 81 #[.pointer (some ⟨b, 0, none⟩)] w fun e w' => e = .returned (.bool false) ∧ w' = w := by
  have q := neq_nil
  go_enter Try.func81, Try.ntmps81
  go_wp2
  go_ret
  exact ⟨rfl, rfl⟩
theorem usable_any {w : World} {bo bm g : Nat} {L : List Ent} (h : RO w bo bm g L) : Calls Try.prog 81 #[.pointer (some ⟨bo, 0, none⟩)] w fun e w' => e = .returned (.bool true) ∧ w' = w := by
  have h0 : w.cell? ⟨bo, 0, none⟩ = some (.map (some bm)) := (cell_of h.ord).trans rfl
  have q := neq_some
  go_enter Try.func81, Try.ntmps81
  go_wp2
  go_ret
  exact ⟨rfl, rfl⟩

/-- where a key stands -/
def look : List Ent → ByteArray → Value
  | [], _ => .pointer none
  | e :: L, k => if e.key = k then .pointer (some ⟨e.blk, 0, none⟩) else look L k
theorem look_mem {L : List Ent} {e : Ent} (he : e ∈ L) (hn : (L.map (·.key)).Nodup) : look L e.key = .pointer (some ⟨e.blk, 0, none⟩) := by
  induction L with
  | nil => cases he
  | cons x L ih =>
    simp only [List.map_cons, List.nodup_cons, List.mem_map, not_exists, not_and] at hn
    unfold look
    rcases List.mem_cons.1 he with rfl | h
    · simp
    · rw [if_neg (fun e' => hn.1 e h e'.symm)]; exact ih h hn.2
theorem look_no {L : List Ent} {k : ByteArray} (h : ∀ e ∈ L, e.key ≠ k) : look L k = .pointer none := by
  induction L with
  | nil => rfl
  | cons x L ih =>
    unfold look
    rw [if_neg (h x (by simp))]
    exact ih fun e he => h e (by simp [he])

theorem find1_idle (w : World) : CallsD Try.prog 89 #[] .returning w fun e u' w' => e = .returned (.tuple #[]) ∧ u' = .returning ∧ w' = w := by
  refine callsD_of_wpS Try.func89 rfl fun c₀ cs hu => ?_
  apply wpS_region
  cases c₀
  simp_all [wpOpsS, go_sem, recoverD, hu, Try.ntmps89, Exit.thenS, bodyPostS, results, Try.results89]
theorem zeroPt (w : World) : (zeroValue TPt).run Try.prog w = .ok (.pointer none) w := by kernel_rfl
theorem look_run {w : World} {bo bm g : Nat} {L : List Ent} (h : RO w bo bm g L) {k : ByteArray} (hk : wfK k) : (Instr.lookup TMp (.map (some bm)) (kv k) false).run Try.prog w = .ok (look L k) w := by
  obtain ⟨n, D, hm, ho⟩ := h.mp
  obtain ⟨v, ps, hr, hv⟩ := hm.lookup keyed Try.underlying99 (zeroPt w) (zd := .nil) (zp := []) rfl (keyAt hk)
  rw [hr]
  congr 1
  by_cases hin : ∃ e ∈ L, e.key = k
  · obtain ⟨e, he, rfl⟩ := hin
    rw [ho.at_ e he] at hv
    rw [look_mem he h.kd]
    exact ptrE_some hv
  · have hno : ∀ e ∈ L, e.key ≠ k := fun e he hk => hin ⟨e, he, hk⟩
    rw [atKey_of_not_has (ho.no k hno)] at hv
    rw [look_no hno]
    exact ptrE_nil hv
theorem find_no (p : Option Addr) (k : Value) (w : World) (h : Calls Try.prog 81 #[.pointer p] w fun e w' => e = .returned (.bool false) ∧ w' = w) :
    Calls Try.prog 75 #[.pointer p, k] w fun e w' => e = .returned (.tuple #[.pointer none, .bool false]) ∧ w' = w := by
  go_enter_defers Try.func75, Try.ntmps75
  go_wp2_with (go_at_call 81; refine h.mono ?_; rintro e w9 ⟨rfl, hw9⟩; rw [hw9]; clear hw9)
  simp [bodyPostD, Leaves, settle, results, Try.results75, go_sem]
theorem find_any {w : World} {bo bm g : Nat} {L : List Ent} (h : RO w bo bm g L) {k : ByteArray} (hk : wfK k) :
    Calls Try.prog 75 #[.pointer (some ⟨bo, 0, none⟩), kv k] w fun e w' => e = .returned (.tuple #[look L k, .bool true]) ∧ w' = w := by
  have hmf : ∀ (fn : Fn) (first cap : Array Value) (w : World), (Instr.makeFunc fn first cap).run Try.prog w = .ok (.func fn first cap) w := fun _ _ _ _ => rfl
  have h0 : w.cell? ⟨bo, 0, none⟩ = some (.map (some bm)) := (cell_of h.ord).trans rfl
  have hlk := look_run h hk
  go_enter_defers Try.func75, Try.ntmps75
  go_wp2_with (go_at_call 81; refine (usable_any h).mono ?_; rintro e w9 ⟨rfl, hw9⟩; rw [hw9]; clear hw9)
  refine leaves_cons (f := 89) (args := #[]) (by simp) (by simp [go_sem]) ?_
  refine (find1_idle _).mono ?_
  rintro e u' w'' ⟨rfl, rfl, rfl⟩
  simp [Leaves, settle, results, Try.results75, go_sem]
end Go.Proofs.Ytpchllepboolhaa.S
