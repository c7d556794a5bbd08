import Derived.Test.YtlacligofhinmaaGreatV2
namespace Go.Proofs.YtlacligofhinmaaGreat.K
open Go.RowKit Go.Maps Go.Proofs.YtlacligofhinmaaGreat
attribute [local go_sem] Oper.semAt_some
set_option linter.unusedVariables false
set_option linter.unusedSimpArgs false
set_option maxRecDepth 100000

def newDk (n : Nat) : Dk := ⟨n, fun _ => z512, [], [], ⟨0, 0, 0, 0, 0⟩⟩
theorem usable_nil (w : World) : Calls Tryz.prog 60 #[.pointer none] w fun r w' => r = .returned (.bool false) ∧ w' = w := by
  go_enter Tryz.func60, Tryz.ntmps60
  go_wp2
  go_ret
  exact ⟨rfl, rfl⟩
theorem usable_zero {w : World} {b : Nat} (h : w.cell? ⟨b, 2, none⟩ = some (.int .i64 0)) : Calls Tryz.prog 60 #[.pointer (some ⟨b, 0, none⟩)] w fun r w' => r = .returned (.bool false) ∧ w' = w := by
  go_enter Tryz.func60, Tryz.ntmps60
  go_wp2
  go_ret
  exact ⟨rfl, rfl⟩
section
variable {w : World} {lk : Int} {b ms ml : Nat} {qv fv : Value} {S : Dk}
theorem RK.c (h : RK w lk b ms ml qv fv S) (j : Nat) : w.cell? ⟨b, j, none⟩ = (#[.int .i32 lk, .int .u32 0, .int .i64 S.n, .map (some ms), qv, .map (some ml), fv, .int .u64 S.st.reads, .int .u64 S.st.writes, .int .u64 S.st.bars, .int .u64 S.st.failed, .int .u64 S.st.crashes] : Array Value)[j]? := cell_of h.blk
theorem RK.fz (h : RK w lk b ms ml qv fv S) (j : Nat) : w.frozen? ⟨b, j, none⟩ = false := frozen_of h.blk
theorem usable_any (h : RK w lk b ms ml qv fv S) : Calls Tryz.prog 60 #[.pointer (some ⟨b, 0, none⟩)] w fun r w' => r = .returned (.bool true) ∧ w' = w := by
  have c2 : w.cell? ⟨b, 2, none⟩ = some (.int .i64 S.n) := h.c 2
  have hn : 0 < S.n := by have := h.n0; omega
  have hd : decide (0 < S.n) = true := decide_eq_true hn
  clear h
  go_enter Tryz.func60, Tryz.ntmps60
  go_wp2
  go_ret
  exact ⟨rfl, rfl⟩
theorem has_any (h : RK w lk b ms ml qv fv S) (s : Int) : Calls Tryz.prog 96 #[.pointer (some ⟨b, 0, none⟩), .int .i64 s] w fun r w' => r = .returned (.bool (decide (0 ≤ s ∧ s < S.n))) ∧ w' = w := by
  have c2 : w.cell? ⟨b, 2, none⟩ = some (.int .i64 S.n) := h.c 2
  clear h
  by_cases h1 : 0 ≤ s
  · by_cases h2 : s < S.n
    · rw [decide_eq_true ⟨h1, h2⟩]
      go_enter Tryz.func96, Tryz.ntmps96
      go_wp2
      go_ret
      exact ⟨rfl, rfl⟩
    · rw [decide_eq_false (fun h => h2 h.2)]
      go_enter Tryz.func96, Tryz.ntmps96
      go_wp2
      go_ret
      exact ⟨rfl, rfl⟩
  · rw [decide_eq_false (fun h => h1 h.1)]
    go_enter Tryz.func96, Tryz.ntmps96
    go_wp2
    go_ret
    exact ⟨rfl, rfl⟩
end
theorem new_bad (w : World) (n : Int) (h : n < 1 ∨ 65536 < n) : Calls Tryz.prog 17 #[.int .i64 n] w fun r w' => r = .returned (.tuple #[.pointer none, .int .i64 30]) ∧ w' = w := by
  by_cases h1 : n < 1
  · go_enter Tryz.func17, Tryz.ntmps17
    go_wp2
    exact bodyPost_ret (results_tmp2 rfl _ _ _) rfl ⟨rfl, rfl⟩
  · have h2 : 65536 < n := h.resolve_left h1
    clear h
    go_enter Tryz.func17, Tryz.ntmps17
    go_wp2
    exact bodyPost_ret (results_tmp2 rfl _ _ _) rfl ⟨rfl, rfl⟩
theorem safe_empty (n : Nat) : SafeOk n (fun _ => z512) (.map []) := ⟨fun s _ => rfl, fun x h => by simp [Maps.has] at h, fun _ _ => okZ⟩
theorem last_empty (n : Nat) : LastOk n [] (.map []) := ⟨fun x h => by simp [Maps.has] at h, fun s i h => by obtain ⟨⟨l, hl⟩, _⟩ := h; simp at hl, fun s _ => rfl⟩
theorem new_any (w : World) (n : Nat) (h0 : 1 ≤ n) (h1 : n ≤ 65536) : Calls Tryz.prog 17 #[.int .i64 n] w fun r w' => ∃ b, r = .returned (.tuple #[.pointer (some ⟨b, 0, none⟩), .int .i64 0]) ∧ ∃ ms ml, RK w' 0 b ms ml (.slice none 0 0) (.slice none 0 0) (newDk n) ∧ Below w.heap.size w w' ∧ ∀ i ∈ fp b ms ml (.slice none 0 0) (.slice none 0 0), w.heap.size ≤ i := by
  have hmk := fun (w : World) => run_makeMap (P := Tryz.prog) TMs w
  have hmk2 := fun (w : World) => run_makeMap (P := Tryz.prog) TMl w
  have d1 : ¬ ((n : Int) < 1) := by omega
  have d2 : ¬ ((65536 : Int) < (n : Int)) := by omega
  go_enter Tryz.func17, Tryz.ntmps17
  go_wp2
  go_ret2
  have s1 : (w.alloc (.map #[] 0)).heap.size = w.heap.size + 1 := World.size_alloc _ _
  have s2 : ((w.alloc (.map #[] 0)).alloc (.map #[] 0)).heap.size = w.heap.size + 1 + 1 := by rw [World.size_alloc, s1]
  have m1 := World.ownsMap_made w Tryz.prog TIn blkE
  have m2 := World.ownsMap_made (w.alloc (.map #[] 0)) Tryz.prog TIn (plainElem Tryz.prog TIn (H := Unit))
  rw [s1] at m2
  refine ⟨w.heap.size + 1 + 1, rfl, w.heap.size, w.heap.size + 1, ⟨?_, h0, h1, ⟨_, (m1.alloc _).alloc _, safe_empty n⟩, ⟨_, m2.alloc _, last_empty n⟩, World.ownsRow_nil _ _ _ _, World.ownsRow_nil _ _ _ _, by omega, by simp [newDk]⟩, ?_, ?_⟩
  · have := heap_alloc_new ((w.alloc (.map #[] 0)).alloc (.map #[] 0)) (.cells #[.int .i32 0, .int .u32 0, .int .i64 n, .map (some w.heap.size), .slice none 0 0, .map (some (w.heap.size + 1)), .slice none 0 0, .int .u64 0, .int .u64 0, .int .u64 0, .int .u64 0, .int .u64 0] TDk)
    rw [s2] at this
    exact this
  · exact (((Below.refl _ w).alloc (Nat.le_refl _) _).alloc (by omega) _).alloc (by omega) _
  · intro i hi
    simp [fp, Value.ownBlock] at hi
    omega
end Go.Proofs.YtlacligofhinmaaGreat.K
