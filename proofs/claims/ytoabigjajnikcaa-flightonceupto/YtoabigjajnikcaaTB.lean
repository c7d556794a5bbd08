import Derived.Test.YtoabigjajnikcaaTM
import Derived.RegionTactic
import Derived.Deep.RegionHeld3
namespace Go.Proofs.Ytoabigjajnikcaa
open Go.RowKit Go.Maps
attribute [local go_sem] Oper.semAt_some
set_option linter.unusedVariables false
set_option linter.unusedSimpArgs false
set_option maxRecDepth 100000

theorem results_cell_one {P : Program} {fn : Func} {p : Tmp} {ty : TypeId} (h : fn.results = #[.cell p ty]) (tmps : Array Value) (w : World) (g : Nat) (t : TypeId) (cs : Array Value) (fr : Nat × Nat) (d : TypeDesc)
    (hp : tmps.getD p undef = .pointer (some ⟨g, 0, none⟩)) (hg : w.heap[g]? = some (.cells cs t fr))
    (hu : P.underlying ty = some d) (hd : (match d with | .struct _ | .array _ _ => true | _ => false) = true) (hi : (P.info? ty).map (·.size) = some cs.size) :
    (results fn tmps).run P w = .ok (.agg cs) w := by
  have hp' : tmps[p]?.getD undef = .pointer (some ⟨g, 0, none⟩) := by simpa using hp
  simp [results, h, hp', asAddr, Sem.run_bind, Result.andThen, run_loadVar_row w g t ty cs fr d hg hu hd hi]
theorem results_cell_tmp1 {P : Program} {fn : Func} {p u : Tmp} {ty : TypeId} (h : fn.results = #[.cell p ty, .tmp u]) (tmps : Array Value) (w : World) (g : Nat) (t : TypeId) (cs : Array Value) (fr : Nat × Nat) (d : TypeDesc)
    (hp : tmps.getD p undef = .pointer (some ⟨g, 0, none⟩)) (hg : w.heap[g]? = some (.cells cs t fr))
    (hu : P.underlying ty = some d) (hd : (match d with | .struct _ | .array _ _ => true | _ => false) = true) (hi : (P.info? ty).map (·.size) = some cs.size) :
    (results fn tmps).run P w = .ok (.tuple #[.agg cs, tmps.getD u undef]) w := by
  have hp' : tmps[p]?.getD undef = .pointer (some ⟨g, 0, none⟩) := by simpa using hp
  simp [results, h, hp', asAddr, Sem.run_bind, Result.andThen, run_loadVar_row w g t ty cs fr d hg hu hd hi]
theorem infoEn : (Try.prog.info? TEn).map (·.size) = some 9 := by kernel_rfl
theorem infoRq : (Try.prog.info? 44).map (·.size) = some 6 := by kernel_rfl
theorem neq_nil (w : World) : (binOp .neq TMp (.map none) (.map none)).run Try.prog w = .ok (.bool false) w := rfl
theorem neq_some (w : World) (b : Nat) : (binOp .neq TMp (.map (some b)) (.map none)).run Try.prog w = .ok (.bool true) w := rfl
section
variable {w : World} {F : Nat → Prop} {b bm : Nat} {V : Int → Value} {S : St}
theorem RT.drewN (h : RT w F b bm V S) (q : Nat) : RT (w.drewN q) F b bm V S := h.keep (X := fun _ => False) (drew_kept (KeptIn.refl _ _) q) (fun _ _ h => h)
/-- a table that no call made -/
def NoT (w : World) (po : Option Addr) : Prop := po = none ∨ ∃ b, po = some ⟨b, 0, none⟩ ∧ w.cell? ⟨b, 2, none⟩ = some (.map none)
theorem NoT.later {po : Option Addr} {w' : World} (h : NoT w po) (hb : Below w.heap.size w w') : NoT w' po := by
  rcases h with h | ⟨b, e, hc⟩
  · exact .inl h
  · refine .inr ⟨b, e, ?_⟩
    have hlt : b < w.heap.size := by
      unfold World.cell? at hc
      cases hh : w.heap[b]? with
      | none => rw [hh] at hc; simp at hc
      | some o => exact (Array.getElem?_eq_some_iff.1 hh).1
    exact (hb.cell (p := ⟨b, 2, none⟩) hlt).trans hc
theorem usable_not {po : Option Addr} (h : NoT w po) : Calls Try.prog 32 #[.pointer po] w fun e w' => e = .returned (.bool false) ∧ w' = w := by
  rcases h with rfl | ⟨b, rfl, hc⟩
  · go_enter Try.func32, Try.ntmps32
    go_wp2
    go_ret
    exact ⟨rfl, rfl⟩
  · have q := neq_nil
    go_enter Try.func32, Try.ntmps32
    go_wp2
    go_ret
    exact ⟨rfl, rfl⟩
theorem usable_any (h : RT w F b bm V S) : Calls Try.prog 32 #[.pointer (some ⟨b, 0, none⟩)] w fun e w' => e = .returned (.bool true) ∧ w' = w := by
  have h2 : w.cell? ⟨b, 2, none⟩ = some (.map (some bm)) := h.c 2
  have q := neq_some
  go_enter Try.func32, Try.ntmps32
  go_wp2
  go_ret
  exact ⟨rfl, rfl⟩
theorem len_any (h : RT w F b bm V S) : Calls Try.prog 11 #[.pointer (some ⟨b, 0, none⟩)] w fun e w' => e = .returned (.int .i64 S.L.length) ∧ w' = w := by
  have h2 : w.cell? ⟨b, 2, none⟩ = some (.map (some bm)) := h.c 2
  have hm := h.mp
  have hu := usable_any h
  have hs : Maps.size (mapI (ids S.L) V) = S.L.length := by rw [mapI_size]; simp [ids]
  have HS : Hid _ := hs
  clear hs h
  go_enter Try.func11, Try.ntmps11
  go_wp2_with (first | (go_at_call 32; refine hu.mono ?_; rintro e w9 ⟨rfl, hw9⟩; rw [hw9]; clear hw9) | (at_len; refine wpList_len_own _ rfl _ TMp rfl TIn TEn Try.underlying74 _ bm _ _ rfl hm ?_))
  go_ret
  exact ⟨by rw [HS.out]; rfl, rfl⟩
theorem len_not {po : Option Addr} (h : NoT w po) : Calls Try.prog 11 #[.pointer po] w fun e w' => e = .returned (.int .i64 0) ∧ w' = w := by
  have hu := usable_not h
  go_enter Try.func11, Try.ntmps11
  go_wp2_with (first | (go_at_call 32; refine hu.mono ?_; rintro e w9 ⟨rfl, hw9⟩; rw [hw9]; clear hw9))
  go_ret
  exact ⟨rfl, rfl⟩
set_option maxHeartbeats 1000000 in
theorem full_any (h : RT w F b bm V S) (n : Nat) (HN : Hid (S.L.length = n)) (m : Nat) (HM : Hid (S.most = m)) : Calls Try.prog 12 #[.pointer (some ⟨b, 0, none⟩)] w fun e w' => e = .returned (.bool (decide (m ≤ n))) ∧ ∃ q, w' = w.drewN q := by
  have h2 : w.cell? ⟨b, 2, none⟩ = some (.map (some bm)) := h.c 2
  have h0 : w.cell? ⟨b, 0, none⟩ = some (.int .i64 m) := by rw [← HM.out]; exact h.c 0
  have hu : ∀ q, Calls Try.prog 32 #[.pointer (some ⟨b, 0, none⟩)] (w.drewN q) fun e w' => e = .returned (.bool true) ∧ w' = w.drewN q := fun q => usable_any (h.drewN q)
  have hl : ∀ ty q, (Builtin.len_ #[TMp] ty #[.map (some bm)]).run Try.prog (w.drewN q) = .ok (.int .i64 n) (w.drewN q) := fun ty q => by
    have := (h.drewN q).mp.len Try.underlying74 ty
    rw [this, mapI_size]; simp [ids, HN.out]
  clear h
  go_enter Try.func12, Try.ntmps12
  go_wp2
  go_quiet (first | (go_at_call 32; exact Calls.quiet_of_same (hu _)) | fail)
  go_wp2
  go_ret
  exact ⟨ret_bool (by simp), _, rfl⟩
theorem full_not {po : Option Addr} (h : NoT w po) : Calls Try.prog 12 #[.pointer po] w fun e w' => e = .returned (.bool false) ∧ ∃ q, w' = w.drewN q := by
  have hu : ∀ q, Calls Try.prog 32 #[.pointer po] (w.drewN q) fun e w' => e = .returned (.bool false) ∧ w' = w.drewN q := fun q => usable_not (w := w.drewN q) h
  clear h
  go_enter Try.func12, Try.ntmps12
  go_wp2
  go_quiet (first | (go_at_call 32; exact Calls.quiet_of_same (hu _)) | fail)
  go_wp2
  go_ret
  exact ⟨rfl, _, rfl⟩
theorem new_bad (n : Int) (h : n < 1 ∨ 64 < n) : Calls Try.prog 16 #[.int .i64 n] w fun r w' => r = .returned (.tuple #[.pointer none, .int .i64 130]) ∧ w' = w := by
  by_cases h1 : n < 1
  · go_enter Try.func16, Try.ntmps16
    go_wp2
    go_ret2
    exact ⟨rfl, rfl⟩
  · have h2 : 64 < n := by omega
    clear h
    go_enter Try.func16, Try.ntmps16
    go_wp2
    go_ret2
    exact ⟨rfl, rfl⟩
end
def newS (m : Nat) : St := ⟨m, 0, []⟩
theorem newS_ok {m : Nat} (h1 : 1 ≤ m) (h2 : m ≤ 64) : SOk (newS m) := ⟨h1, h2, by simp [newS], by simp [newS, ids], by simp [newS, ids], by simp [newS, ids], by simp [newS]⟩
end Go.Proofs.Ytoabigjajnikcaa
