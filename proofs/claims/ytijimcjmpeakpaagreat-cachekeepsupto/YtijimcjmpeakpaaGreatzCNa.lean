import Derived.Test.YtijimcjmpeakpaaGreatzCY
namespace Go.Proofs.YtijimcjmpeakpaaGreat.C
open Go.RowKit Go.Maps Go.Shelf Go.Proofs.YtijimcjmpeakpaaGreat
attribute [local go_sem] Oper.semAt_some
set_option linter.unusedVariables false
set_option linter.unusedSimpArgs false
set_option maxRecDepth 100000

/-- a cache that no call made -/
def Dead (w : World) (v : Value) : Prop := ∀ w', Below w.heap.size w w' → Calls Tryz.prog 41 #[v] w' fun r w'' => r = .returned (.bool false) ∧ w'' = w'
theorem Dead.later {w w' : World} {v : Value} (h : Dead w v) (hb : Below w.heap.size w w') : Dead w' v := fun w'' h2 => h w'' (hb.trans (h2.mono hb.size))
theorem usable_nil (w : World) : Calls Tryz.prog 41 #[.pointer none] w fun r w' => r = .returned (.bool false) ∧ w' = w := by
  go_enter Tryz.func41, Tryz.ntmps41
  go_wp2
  go_ret
  exact ⟨rfl, rfl⟩
theorem usable_zero {w : World} {b : Nat} (c0 : w.cell? ⟨b, 0, none⟩ = some (.pointer none)) : Calls Tryz.prog 41 #[.pointer (some ⟨b, 0, none⟩)] w fun r w' => r = .returned (.bool false) ∧ w' = w := by
  go_enter Tryz.func41, Tryz.ntmps41
  go_wp2
  go_ret
  exact ⟨rfl, rfl⟩
theorem dead_nil (w : World) : Dead w (.pointer none) := fun w' _ => usable_nil w'
theorem dead_zero {w : World} {b : Nat} {cur : Array Value} {t : TypeId} (h : w.heap[b]? = some (.cells cur t)) (h2 : cur[0]? = some (.pointer none)) : Dead w (.pointer (some ⟨b, 0, none⟩)) := fun w' hb => by
  have hlt : b < w.heap.size := by
    rcases Nat.lt_or_ge b w.heap.size with h0 | h0
    · exact h0
    · rw [Array.getElem?_eq_none h0] at h; cases h
  have h' : w'.heap[b]? = some (.cells cur t) := (hb.block b hlt).trans h
  exact usable_zero ((K.cell_of h').trans h2)
section
variable {w : World} {v : Value}
theorem refusal_dead (h : Dead w v) (s : Int) : Calls Tryz.prog 43 #[v, .int .i64 s] w fun r w' => r = .returned (.int .i64 1) ∧ w' = w := by
  have hus := h _ (Below.refl w.heap.size w)
  clear h
  go_enter Tryz.func43, Tryz.ntmps43
  go_wp2_with (go_at_call 41; refine hus.mono ?_; rintro e w9 ⟨rfl, hw9⟩; rw [hw9]; clear hw9 hus)
  go_ret
  exact ⟨rfl, rfl⟩
theorem read_dead (h : Dead w v) (s : Int) : Calls Tryz.prog 20 #[v, .int .i64 s] w fun r w' => r = .returned (.tuple #[.slice none 0 0, .int .i64 1]) ∧ w' = w := by
  have hus := refusal_dead h s
  clear h
  go_enter Tryz.func20, Tryz.ntmps20
  go_wp2_with (go_at_call 43; refine hus.mono ?_; rintro e w9 ⟨rfl, hw9⟩; rw [hw9]; clear hw9 hus)
  refine bodyPost_ret (results_tmp2 rfl _ _ _) rfl ?_
  exact ⟨rfl, rfl⟩
theorem write_dead (h : Dead w v) (s : Int) (x : Value) : Calls Tryz.prog 17 #[v, .int .i64 s, x] w fun r w' => r = .returned (.int .i64 1) ∧ w' = w := by
  have hus := refusal_dead h s
  clear h
  go_enter Tryz.func17, Tryz.ntmps17
  go_wp2_with (go_at_call 43; refine hus.mono ?_; rintro e w9 ⟨rfl, hw9⟩; rw [hw9]; clear hw9 hus)
  go_ret
  exact ⟨rfl, rfl⟩
theorem flush_dead (h : Dead w v) : Calls Tryz.prog 24 #[v] w fun r w' => r = .returned (.int .i64 1) ∧ w' = w := by
  have hus := h _ (Below.refl w.heap.size w)
  clear h
  go_enter Tryz.func24, Tryz.ntmps24
  go_wp2_with (go_at_call 41; refine hus.mono ?_; rintro e w9 ⟨rfl, hw9⟩; rw [hw9]; clear hw9 hus)
  go_ret
  exact ⟨rfl, rfl⟩
theorem through_dead (h : Dead w v) (x : Value) : Calls Tryz.prog 25 #[v, x] w fun r w' => r = .returned (.int .i64 1) ∧ w' = w := by
  have hus := h _ (Below.refl w.heap.size w)
  clear h
  go_enter Tryz.func25, Tryz.ntmps25
  go_wp2_with (go_at_call 41; refine hus.mono ?_; rintro e w9 ⟨rfl, hw9⟩; rw [hw9]; clear hw9 hus)
  go_ret
  exact ⟨rfl, rfl⟩
theorem back_dead (h : Dead w v) : Calls Tryz.prog 26 #[v] w fun r w' => r = .returned (.tuple #[.int .i64 (-1), .int .i64 1]) ∧ w' = w := by
  have hus := h _ (Below.refl w.heap.size w)
  clear h
  go_enter Tryz.func26, Tryz.ntmps26
  go_wp2_with (go_at_call 41; refine hus.mono ?_; rintro e w9 ⟨rfl, hw9⟩; rw [hw9]; clear hw9 hus)
  refine bodyPost_ret (results_tmp2 rfl _ _ _) rfl ?_
  exact ⟨rfl, rfl⟩
theorem peek_dead (h : Dead w v) (s : Int) : Calls Tryz.prog 21 #[v, .int .i64 s] w fun r w' => r = .returned (.tuple #[.slice none 0 0, .int .i64 1]) ∧ w' = w := by
  have hus := refusal_dead h s
  clear h
  go_enter Tryz.func21, Tryz.ntmps21
  go_wp2_with (go_at_call 43; refine hus.mono ?_; rintro e w9 ⟨rfl, hw9⟩; rw [hw9]; clear hw9 hus)
  refine bodyPost_ret (results_tmp2 rfl _ _ _) rfl ?_
  exact ⟨rfl, rfl⟩
theorem dirty_dead (h : Dead w v) (s : Int) : Calls Tryz.prog 29 #[v, .int .i64 s] w fun r w' => r = .returned (.bool false) ∧ w' = w := by
  have hus := h _ (Below.refl w.heap.size w)
  clear h
  go_enter Tryz.func29, Tryz.ntmps29
  go_wp2_with (go_at_call 41; refine hus.mono ?_; rintro e w9 ⟨rfl, hw9⟩; rw [hw9]; clear hw9 hus)
  go_ret
  exact ⟨rfl, rfl⟩
theorem safe_dead (h : Dead w v) (s : Int) : Calls Tryz.prog 30 #[v, .int .i64 s] w fun r w' => r = .returned (.bool false) ∧ w' = w := by
  have hus := h _ (Below.refl w.heap.size w)
  clear h
  go_enter Tryz.func30, Tryz.ntmps30
  go_wp2_with (go_at_call 41; refine hus.mono ?_; rintro e w9 ⟨rfl, hw9⟩; rw [hw9]; clear hw9 hus)
  go_ret
  exact ⟨rfl, rfl⟩
theorem stats_dead (h : Dead w v) : Calls Tryz.prog 14 #[v] w fun r w' => r = .returned (.agg #[.int .u64 0, .int .u64 0, .int .u64 0, .int .u64 0]) ∧ Below w.heap.size w w' := by
  have hb : Below w.heap.size w (w.alloc (.cells #[.int .u64 0, .int .u64 0, .int .u64 0, .int .u64 0] 36)) := (Below.refl _ w).alloc (Nat.le_refl _) _
  have hus := h _ hb
  have HB : Hid (Below w.heap.size w _) := hb
  have hi5 : (Tryz.prog.info? 36).map (·.size) = some 4 := by kernel_rfl
  clear hb h
  go_enter Tryz.func14, Tryz.ntmps14
  go_wp2_with (go_at_call 41; refine hus.mono ?_; rintro e w9 ⟨rfl, hw9⟩; rw [hw9]; clear hw9 hus)
  refine bodyPost_ret (results_cell_row rfl _ _ w.heap.size 36 #[.int .u64 0, .int .u64 0, .int .u64 0, .int .u64 0] (0, 0) _ rfl (heap_alloc_new w _) Tryz.underlying36 rfl hi5) rfl ⟨rfl, HB.out⟩
theorem told_dead (p : Option Addr) (h : Dead w (.pointer p)) : Calls Tryz.prog 73 #[.pointer p] w fun r w' => r = .returned (.slice none 0 0) ∧ w' = w.alloc (.cells #[.pointer p] 28) := by
  have hb : Below w.heap.size w (w.alloc (.cells #[.pointer p] 28)) := (Below.refl _ w).alloc (Nat.le_refl _) _
  have hus := h _ hb
  clear hb h
  refine (callsIn_wide (n := 2)).1 ?_
  have f0 : Fence.wide.fn 73 := trivial
  have f1 : Fence.wide.fn 41 := trivial
  refine callsIn_of_wp_marks Tryz.func73 rfl f0 ?_ rfl
  simp only [Tryz.ntmps73, List.size_toArray, List.length_cons, List.length_nil, Nat.reduceAdd, Nat.reduceSub, Array.replicate_succ, Array.replicate_zero, List.push_toArray, List.append_toArray, List.nil_append, List.cons_append]
  gi_wp2_with (gi_at_call 41; refine (callsIn_wide.2 hus).mono ?_; rintro e w9 ⟨rfl, hw9⟩; rw [hw9]; clear hw9 hus)
  exact ⟨_, results_tmp rfl _ _ _, rfl, rfl⟩
theorem lines_fn (w : World) (p : Option Addr) : Calls Tryz.prog 40 #[.pointer p] w fun r w' => r = .returned (.func (.func 72) #[] #[.pointer (some ⟨w.heap.size, 0, none⟩)]) ∧ w' = w.alloc (.cells #[.pointer p] 28) := by
  have hmf : ∀ (fn : Fn) (first cap : Array Value) (w : World), (Instr.makeFunc fn first cap).run Tryz.prog w = .ok (.func fn first cap) w := fun _ _ _ _ => rfl
  go_enter Tryz.func40, Tryz.ntmps40
  go_wp2
  go_ret
  exact ⟨rfl, rfl⟩
end
end Go.Proofs.YtijimcjmpeakpaaGreat.C
