import Derived.Test.YthmonfmpgjbhmabKH
namespace Go.Proofs.Ythmonfmpgjbhmab.K
open Go.RowKit Go.Maps Go.Proofs.Ythmonfmpgjbhmab Go.MuLone
attribute [local go_sem] Oper.semAt_some
set_option linter.unusedVariables false
set_option linter.unusedSimpArgs false
set_option maxRecDepth 100000

/-- a disk that no call made -/
def Dead (w : World) (v : Value) : Prop := ∀ w', Below w.heap.size w w' → Calls Try.prog 25 #[v] w' fun r w'' => r = .returned (.bool false) ∧ w'' = w'
theorem Dead.later {w w' : World} {v : Value} (h : Dead w v) (hb : Below w.heap.size w w') : Dead w' v := fun w'' h2 => h w'' (hb.trans (h2.mono hb.size))
theorem dead_nil (w : World) : Dead w (.pointer none) := fun w' _ => usable_nil w'
theorem dead_zero {w : World} {b : Nat} {cur : Array Value} {t : TypeId} (h : w.heap[b]? = some (.cells cur t)) (h2 : cur[2]? = some (.int .i64 0)) : Dead w (.pointer (some ⟨b, 0, none⟩)) := fun w' hb => by
  have hlt : b < w.heap.size := by
    rcases Nat.lt_or_ge b w.heap.size with h0 | h0
    · exact h0
    · rw [Array.getElem?_eq_none h0] at h; cases h
  have h' : w'.heap[b]? = some (.cells cur t) := (hb.block b hlt).trans h
  exact usable_zero ((cell_of h').trans h2)
section
variable {w : World} {v : Value}
theorem read_dead (h : Dead w v) (s : Int) : Calls Try.prog 22 #[v, .int .i64 s] w fun r w' => r = .returned (.tuple #[.slice none 0 0, .int .i64 1]) ∧ Below w.heap.size w w' := by
  have hb := Below.refl w.heap.size w
  have hus := h _ hb
  have HB : Hid (Below w.heap.size w _) := hb
  clear hb h
  go_enter_defers Try.func22, Try.ntmps22
  go_wp2_with (go_at_call 25; refine hus.mono ?_; rintro e w9 ⟨rfl, hw9⟩; rw [hw9]; clear hw9 hus)
  exact ⟨_, results_tmp2 rfl _ _ _, rfl, HB.out⟩
theorem write_dead (h : Dead w v) (s : Int) (x : Value) : Calls Try.prog 8 #[v, .int .i64 s, x] w fun r w' => r = .returned (.int .i64 1) ∧ Below w.heap.size w w' := by
  have hb := Below.refl w.heap.size w
  have hus := h _ hb
  have HB : Hid (Below w.heap.size w _) := hb
  clear hb h
  go_enter_defers Try.func8, Try.ntmps8
  go_wp2_with (go_at_call 25; refine hus.mono ?_; rintro e w9 ⟨rfl, hw9⟩; rw [hw9]; clear hw9 hus)
  exact ⟨_, results_tmp rfl _ _ _, rfl, HB.out⟩
theorem barrier_dead (h : Dead w v) : Calls Try.prog 13 #[v] w fun r w' => r = .returned (.int .i64 1) ∧ Below w.heap.size w w' := by
  have hb := Below.refl w.heap.size w
  have hus := h _ hb
  have HB : Hid (Below w.heap.size w _) := hb
  clear hb h
  go_enter_defers Try.func13, Try.ntmps13
  go_wp2_with (go_at_call 25; refine hus.mono ?_; rintro e w9 ⟨rfl, hw9⟩; rw [hw9]; clear hw9 hus)
  exact ⟨_, results_tmp rfl _ _ _, rfl, HB.out⟩
theorem fault_dead (h : Dead w v) (f0 f1 f2 f3 f4 : Value) : Calls Try.prog 10 #[v, .agg #[f0, f1, f2, f3, f4]] w fun r w' => r = .returned (.int .i64 1) ∧ Below w.heap.size w w' := by
  have hb : Below w.heap.size w (w.alloc (.cells #[f0, f1, f2, f3, f4] 29)) := (Below.refl _ w).alloc (Nat.le_refl _) _
  have hus := h _ hb
  have HB : Hid (Below w.heap.size w _) := hb
  clear hb h
  go_enter_defers Try.func10, Try.ntmps10
  go_wp2_with (go_at_call 25; refine hus.mono ?_; rintro e w9 ⟨rfl, hw9⟩; rw [hw9]; clear hw9 hus)
  exact ⟨_, results_tmp rfl _ _ _, rfl, HB.out⟩
theorem crash_dead (h : Dead w v) (ao : Option Addr) (n c : Nat) : Calls Try.prog 16 #[v, .slice ao n c] w fun r w' => r = .returned (.tuple #[]) ∧ Below w.heap.size w w' := by
  have hb : Below w.heap.size w (w.alloc (.cells #[.slice ao n c] 30)) := (Below.refl _ w).alloc (Nat.le_refl _) _
  have hus := h _ hb
  have HB : Hid (Below w.heap.size w _) := hb
  clear hb h
  go_enter_defers Try.func16, Try.ntmps16
  go_wp2_with (go_at_call 25; refine hus.mono ?_; rintro e w9 ⟨rfl, hw9⟩; rw [hw9]; clear hw9 hus)
  exact ⟨_, results_none rfl _ _ _, rfl, HB.out⟩
theorem sectors_dead (h : Dead w v) : Calls Try.prog 24 #[v] w fun r w' => r = .returned (.int .i64 0) ∧ Below w.heap.size w w' := by
  have hb := Below.refl w.heap.size w
  have hus := h _ hb
  have HB : Hid (Below w.heap.size w _) := hb
  clear hb h
  go_enter_defers Try.func24, Try.ntmps24
  go_wp2_with (go_at_call 25; refine hus.mono ?_; rintro e w9 ⟨rfl, hw9⟩; rw [hw9]; clear hw9 hus)
  exact ⟨_, results_tmp rfl _ _ _, rfl, HB.out⟩
theorem faults_dead (h : Dead w v) : Calls Try.prog 18 #[v] w fun r w' => r = .returned (.slice none 0 0) ∧ Below w.heap.size w w' := by
  have hb := Below.refl w.heap.size w
  have hus := h _ hb
  have HB : Hid (Below w.heap.size w _) := hb
  clear hb h
  go_enter_defers Try.func18, Try.ntmps18
  go_wp2_with (go_at_call 25; refine hus.mono ?_; rintro e w9 ⟨rfl, hw9⟩; rw [hw9]; clear hw9 hus)
  exact ⟨_, results_tmp rfl _ _ _, rfl, HB.out⟩
theorem queue_dead (h : Dead w v) : Calls Try.prog 12 #[v] w fun r w' => r = .returned (.slice none 0 0) ∧ Below w.heap.size w w' := by
  have hb := Below.refl w.heap.size w
  have hus := h _ hb
  have HB : Hid (Below w.heap.size w _) := hb
  clear hb h
  go_enter_defers Try.func12, Try.ntmps12
  go_wp2_with (go_at_call 25; refine hus.mono ?_; rintro e w9 ⟨rfl, hw9⟩; rw [hw9]; clear hw9 hus)
  exact ⟨_, results_tmp rfl _ _ _, rfl, HB.out⟩
theorem waits_dead (h : Dead w v) (s : Int) : Calls Try.prog 23 #[v, .int .i64 s] w fun r w' => r = .returned (.bool false) ∧ Below w.heap.size w w' := by
  have hb := Below.refl w.heap.size w
  have hus := h _ hb
  have HB : Hid (Below w.heap.size w _) := hb
  clear hb h
  go_enter_defers Try.func23, Try.ntmps23
  go_wp2_with (go_at_call 25; refine hus.mono ?_; rintro e w9 ⟨rfl, hw9⟩; rw [hw9]; clear hw9 hus)
  exact ⟨_, results_tmp rfl _ _ _, rfl, HB.out⟩
theorem image_dead (h : Dead w v) : Calls Try.prog 11 #[v] w fun r w' => r = .returned (.slice none 0 0) ∧ Below w.heap.size w w' := by
  have hb := Below.refl w.heap.size w
  have hus := h _ hb
  have HB : Hid (Below w.heap.size w _) := hb
  clear hb h
  go_enter_defers Try.func11, Try.ntmps11
  go_wp2_with (go_at_call 25; refine hus.mono ?_; rintro e w9 ⟨rfl, hw9⟩; rw [hw9]; clear hw9 hus)
  exact ⟨_, results_tmp rfl _ _ _, rfl, HB.out⟩
theorem stats_dead (h : Dead w v) : Calls Try.prog 46 #[v] w fun r w' => r = .returned (.agg #[.int .u64 0, .int .u64 0, .int .u64 0, .int .u64 0, .int .u64 0]) ∧ Below w.heap.size w w' := by
  have hb : Below w.heap.size w (w.alloc (.cells #[.int .u64 0, .int .u64 0, .int .u64 0, .int .u64 0, .int .u64 0] 65)) := (Below.refl _ w).alloc (Nat.le_refl _) _
  have hus := h _ hb
  have HB : Hid (Below w.heap.size w _) := hb
  have hi5 : (Try.prog.info? 65).map (·.size) = some 5 := by kernel_rfl
  clear hb h
  go_enter_defers Try.func46, Try.ntmps46
  go_wp2_with (go_at_call 25; refine hus.mono ?_; rintro e w9 ⟨rfl, hw9⟩; rw [hw9]; clear hw9 hus)
  exact ⟨_, results_cell_row rfl _ _ w.heap.size 65 #[.int .u64 0, .int .u64 0, .int .u64 0, .int .u64 0, .int .u64 0] (0, 0) _ rfl (heap_alloc_new w _) Try.underlying65 rfl hi5, rfl, HB.out⟩
theorem copy_dead (h : Dead w v) : Calls Try.prog 47 #[v] w fun r w' => r = .returned (.pointer none) ∧ Below w.heap.size w w' := by
  have hb := Below.refl w.heap.size w
  have hus := h _ hb
  have HB : Hid (Below w.heap.size w _) := hb
  clear hb h
  go_enter_defers Try.func47, Try.ntmps47
  go_wp2_with (go_at_call 25; refine hus.mono ?_; rintro e w9 ⟨rfl, hw9⟩; rw [hw9]; clear hw9 hus)
  exact ⟨_, results_tmp rfl _ _ _, rfl, HB.out⟩
end
end Go.Proofs.Ythmonfmpgjbhmab.K
