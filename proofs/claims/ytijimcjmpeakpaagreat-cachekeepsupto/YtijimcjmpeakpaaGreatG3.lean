import Derived.Test.YtijimcjmpeakpaaGreatzKB
import Derived.Laws.CopyRow
namespace Go.Proofs.YtijimcjmpeakpaaGreat.K
open Go.RowKit Go.Maps Go.Proofs.YtijimcjmpeakpaaGreat
attribute [local go_sem] Oper.semAt_some
set_option linter.unusedVariables false
set_option linter.unusedSimpArgs false
set_option maxRecDepth 100000

def newDk (n : Nat) : Dk := ⟨n, fun _ => z512, [], [], ⟨0, 0, 0, 0, 0⟩⟩
theorem usable_nil (w : World) : Calls Tryz.prog 60 #[.pointer none] w fun r w' => r = .returned (.bool false) ∧ w' = w := by
  go_enter Tryz.func60, Tryz.ntmps60
  go_wp2
  go_ret
  exact ⟨rfl, rfl⟩
theorem usable_zero {w : World} {b : Nat} (h : w.cell? ⟨b, 2, none⟩ = some (.int .i64 0)) : Calls Tryz.prog 60 #[.pointer (some ⟨b, 0, none⟩)] w fun r w' => r = .returned (.bool false) ∧ w' = w := by
  go_enter Tryz.func60, Tryz.ntmps60
  go_wp2
  go_ret
  exact ⟨rfl, rfl⟩
section
variable {w : World} {lk : Int} {b ms ml : Nat} {qv fv : Value} {S : Dk}
theorem RK.c (h : RK w lk b ms ml qv fv S) (j : Nat) : w.cell? ⟨b, j, none⟩ = (#[.int .i32 lk, .int .u32 0, .int .i64 S.n, .map (some ms), qv, .map (some ml), fv, .int .u64 S.st.reads, .int .u64 S.st.writes, .int .u64 S.st.bars, .int .u64 S.st.failed, .int .u64 S.st.crashes] : Array Value)[j]? := cell_of h.blk
theorem RK.fz (h : RK w lk b ms ml qv fv S) (j : Nat) : w.frozen? ⟨b, j, none⟩ = false := frozen_of h.blk
theorem usable_any (h : RK w lk b ms ml qv fv S) : Calls Tryz.prog 60 #[.pointer (some ⟨b, 0, none⟩)] w fun r w' => r = .returned (.bool true) ∧ w' = w := by
  have c2 : w.cell? ⟨b, 2, none⟩ = some (.int .i64 S.n) := h.c 2
  have hn : 0 < S.n := by have := h.n0; omega
  have hd : decide (0 < S.n) = true := decide_eq_true hn
  clear h
  go_enter Tryz.func60, Tryz.ntmps60
  go_wp2
  go_ret
  exact ⟨rfl, rfl⟩
theorem has_any (h : RK w lk b ms ml qv fv S) (s : Int) : Calls Tryz.prog 79 #[.pointer (some ⟨b, 0, none⟩), .int .i64 s] w fun r w' => r = .returned (.bool (decide (0 ≤ s ∧ s < S.n))) ∧ w' = w := by
  have c2 : w.cell? ⟨b, 2, none⟩ = some (.int .i64 S.n) := h.c 2
  clear h
  by_cases h1 : 0 ≤ s
  · by_cases h2 : s < S.n
    · rw [decide_eq_true ⟨h1, h2⟩]
      go_enter Tryz.func79, Tryz.ntmps79
      go_wp2
      go_ret
      exact ⟨rfl, rfl⟩
    · rw [decide_eq_false (fun h => h2 h.2)]
      go_enter Tryz.func79, Tryz.ntmps79
      go_wp2
      go_ret
      exact ⟨rfl, rfl⟩
  · rw [decide_eq_false (fun h => h1 h.1)]
    go_enter Tryz.func79, Tryz.ntmps79
    go_wp2
    go_ret
    exact ⟨rfl, rfl⟩
end
theorem new_bad (w : World) (n : Int) (h : n < 1 ∨ 65536 < n) : Calls Tryz.prog 31 #[.int .i64 n] w fun r w' => r = .returned (.tuple #[.pointer none, .int .i64 30]) ∧ w' = w := by
  by_cases h1 : n < 1
  · go_enter Tryz.func31, Tryz.ntmps31
    go_wp2
    exact bodyPost_ret (results_tmp2 rfl _ _ _) rfl ⟨rfl, rfl⟩
  · have h2 : 65536 < n := h.resolve_left h1
    clear h
    go_enter Tryz.func31, Tryz.ntmps31
    go_wp2
    exact bodyPost_ret (results_tmp2 rfl _ _ _) rfl ⟨rfl, rfl⟩
theorem safe_empty (n : Nat) : SafeOk n (fun _ => z512) (.map []) := ⟨fun s _ => rfl, fun x h => by simp [Maps.has] at h, fun _ _ => okZ⟩
theorem last_empty (n : Nat) : LastOk n [] (.map []) := ⟨fun x h => by simp [Maps.has] at h, fun s i h => by obtain ⟨⟨l, hl⟩, _⟩ := h; simp at hl, fun s _ => rfl⟩
theorem new_any (w : World) (n : Nat) (h0 : 1 ≤ n) (h1 : n ≤ 65536) : Calls Tryz.prog 31 #[.int .i64 n] w fun r w' => ∃ b, r = .returned (.tuple #[.pointer (some ⟨b, 0, none⟩), .int .i64 0]) ∧ ∃ ms ml, RK w' 0 b ms ml (.slice none 0 0) (.slice none 0 0) (newDk n) ∧ Below w.heap.size w w' ∧ ∀ i ∈ fp b ms ml (.slice none 0 0) (.slice none 0 0), w.heap.size ≤ i := by
  have hmk := fun (w : World) => run_makeMap (P := Tryz.prog) TMs w
  have hmk2 := fun (w : World) => run_makeMap (P := Tryz.prog) TMl w
  have d1 : ¬ ((n : Int) < 1) := by omega
  have d2 : ¬ ((65536 : Int) < (n : Int)) := by omega
  go_enter Tryz.func31, Tryz.ntmps31
  go_wp2
  go_ret2
  have s1 : (w.alloc (.map #[] 0)).heap.size = w.heap.size + 1 := World.size_alloc _ _
  have s2 : ((w.alloc (.map #[] 0)).alloc (.map #[] 0)).heap.size = w.heap.size + 1 + 1 := by rw [World.size_alloc, s1]
  have m1 := World.ownsMap_made w Tryz.prog TIn blkE
  have m2 := World.ownsMap_made (w.alloc (.map #[] 0)) Tryz.prog TIn (plainElem Tryz.prog TIn (H := Unit))
  rw [s1] at m2
  refine ⟨w.heap.size + 1 + 1, rfl, w.heap.size, w.heap.size + 1, ⟨?_, h0, h1, ⟨_, (m1.alloc _).alloc _, safe_empty n⟩, ⟨_, m2.alloc _, last_empty n⟩, World.ownsRow_nil _ _ _ _, World.ownsRow_nil _ _ _ _, by omega, by simp [newDk]⟩, ?_, ?_⟩
  · have := heap_alloc_new ((w.alloc (.map #[] 0)).alloc (.map #[] 0)) (.cells #[.int .i32 0, .int .u32 0, .int .i64 n, .map (some w.heap.size), .slice none 0 0, .map (some (w.heap.size + 1)), .slice none 0 0, .int .u64 0, .int .u64 0, .int .u64 0, .int .u64 0, .int .u64 0] TDk)
    rw [s2] at this
    exact this
  · exact (((Below.refl _ w).alloc (Nat.le_refl _) _).alloc (by omega) _).alloc (by omega) _
  · intro i hi
    simp [fp, Value.ownBlock] at hi
    omega
end Go.Proofs.YtijimcjmpeakpaaGreat.K

namespace Go.Proofs.YtijimcjmpeakpaaGreat.K
open Go.RowKit Go.Maps Go.Proofs.YtijimcjmpeakpaaGreat
attribute [local go_sem] Oper.semAt_some
set_option linter.unusedVariables false
set_option linter.unusedSimpArgs false
set_option maxRecDepth 100000

theorem infoBl : (Tryz.prog.info? TBl).map (fun i => (i.zero, i.size)) = some (some (.agg (Array.replicate 512 (.int .u8 0))), 512) := by kernel_rfl
def Zc : Array Value := Array.replicate 512 (.int .u8 0)
theorem Zc_eq : Zc = (z512.map bv).toArray := by
  apply Array.toList_inj.1
  unfold Zc z512
  rw [Array.toList_replicate, List.map_replicate]
  rfl
theorem zeroBl (w : World) : (zeroValue TBl).run Tryz.prog w = .ok (.agg Zc) w := (zero_of_info infoBl).1 w
theorem sizeBl : (Tryz.prog.info? TBl).map (·.size) = some 512 := (zero_of_info infoBl).2
theorem sizeU8 : (Tryz.prog.info? 5).map (·.size) = some 1 := by kernel_rfl
/-- a sector's cells -/
def Lc (l : Bl) : Array Value := (l.map bv).toArray
theorem Lc_size {l : Bl} (h : OkB l) : (Lc l).size = 512 := by simp [Lc, h.len]
theorem Zc_size : Zc.size = 512 := by simp [Zc]
theorem Lc_one (l : Bl) : (Lc l).all (·.oneCell') = true := all_oneCell_toArray (fun v hv => by obtain ⟨x, _, rfl⟩ := List.mem_map.1 hv; rfl)
theorem Lc_one' (l : Bl) : ∀ v ∈ l.map bv, v.oneCell' = true := fun v hv => by obtain ⟨x, _, rfl⟩ := List.mem_map.1 hv; rfl

theorem there_row {w : World} {b : Nat} {cs : Array Value} {T : TypeId} (h : w.heap[b]? = some (.cells cs T (0, 0))) {o n : Nat} (hn : o + n ≤ cs.size) : w.there b o n := fun j hj => by
  refine ⟨?_, frozen_of h⟩
  rw [cell_of h, Array.getElem?_eq_getElem (by omega)]; rfl
/-- a whole row written over -/
theorem setCells_row {w : World} {b : Nat} {old : Array Value} {T : TypeId} {l : Bl} (hl : OkB l) (h : w.heap[b]? = some (.cells old T (0, 0))) (ho : old.size = 512) : w.setCells b 0 (Lc l).toList = w.setRow b (Lc l) := by
  have hi : (Tryz.prog.info? TBl).map (·.size) = some (Lc l).size := by rw [Lc_size hl]; exact sizeBl
  have h1 := run_storeVar_mid (P := Tryz.prog) w b 0 TBl (Lc l) (there_row h (by rw [Lc_size hl, ho]; decide)) hi (Lc_one l)
  have h2 := run_storeVar_row (P := Tryz.prog) w b T TBl old (Lc l) h hi (by rw [Lc_size hl, ho]) (Lc_one l)
  rw [h1] at h2
  simpa using h2
set_option maxHeartbeats 2000000 in
theorem block_any {w : World} {a : Addr} {n cap : Nat} {l : Bl} (hl : OkB l) (hn : 512 ≤ n) (hsrc : ∀ j v, (l.map bv)[j]? = some v → w.cell? (a.add j) = some v) :
    Calls Tryz.prog 127 #[.slice (some a) n cap] w fun r w' => r = .returned (bval l) ∧ Below w.heap.size w w' := by
  have hz := zeroBl
  have hB0 : Below w.heap.size w (w.alloc (.cells Zc TBl)) := (Below.refl _ w).alloc (Nat.le_refl _) _
  have hB1 : Below w.heap.size w ((w.alloc (.cells Zc TBl)).alloc (.cells Zc TBl)) := hB0.alloc (by simp) _
  have hcp : ∀ ty, (Builtin.copy_ #[80, 80] ty #[.slice (some ⟨w.heap.size + 1, 0, none⟩) 512 512, .slice (some a) n cap]).run Tryz.prog ((w.alloc (.cells Zc TBl)).alloc (.cells Zc TBl)) = .ok (goInt 512) ((w.alloc (.cells Zc TBl)).alloc (.cells (Lc l) TBl)) := fun ty => by
    have h1 := run_copy_row (P := Tryz.prog) ((w.alloc (.cells Zc TBl)).alloc (.cells Zc TBl)) 80 80 ty 5 (w.heap.size + 1) 0 512 512 a n cap Zc TBl (l.map bv) Tryz.underlying80 sizeU8 (by have := heap_alloc_new (w.alloc (.cells Zc TBl)) (.cells Zc TBl); rw [World.size_alloc] at this; exact this) (by rw [List.length_map, hl.len]; exact (Nat.min_eq_right hn).symm) (fun j v hv => cell_later hB1 (hsrc j v hv)) (by rw [List.length_map, hl.len, Zc_size]; decide) (Lc_one' l)
    rw [List.length_map, hl.len] at h1
    have h2 := World.setRow_alloc_new (w.alloc (.cells Zc TBl)) Zc (Lc l) TBl
    rw [World.size_alloc] at h2
    have e : (Zc.toList.take 0 ++ l.map bv ++ Zc.toList.drop (0 + 512)).toArray = Lc l := by simp [Lc, Zc]
    rw [e, h2] at h1
    exact h1
  have HB : Hid (Below w.heap.size w ((w.alloc (.cells Zc TBl)).alloc (.cells (Lc l) TBl))) := hB0.alloc (by simp) _
  have HG : Hid (((w.alloc (.cells Zc TBl)).alloc (.cells (Lc l) TBl)).heap[w.heap.size]? = some (.cells Zc TBl)) := (Below.heap_alloc _ _ _ (by simp)).trans (heap_alloc_new w _)
  have HG1 : Hid (((w.alloc (.cells Zc TBl)).alloc (.cells (Lc l) TBl)).heap[w.heap.size + 1]? = some (.cells (Lc l) TBl)) := by
    have := heap_alloc_new (w.alloc (.cells Zc TBl)) (.cells (Lc l) TBl)
    rw [World.size_alloc] at this
    exact this
  have HL : Hid (OkB l) := hl
  have HZ : Hid ((Tryz.prog.info? TBl).map (·.size) = some (Lc l).size) := by show _ = _; rw [Lc_size hl]; exact sizeBl
  have HT : Hid (((w.alloc (.cells Zc TBl)).alloc (.cells (Lc l) TBl)).there w.heap.size 0 (Lc l).size) := there_row HG.out (by rw [Lc_size hl, Zc_size]; decide)
  clear hB0 hB1 hl hn hsrc
  go_enter Tryz.func127, Tryz.ntmps127
  go_wp2_with (first | (refine wpList_load_row rfl TBl _ rfl (w.heap.size + 1) rfl TBl (Lc l) (0, 0) _ HG1.out Tryz.underlying132 rfl HZ.out ?_) | (refine wpList_store_mid rfl TBl _ _ rfl w.heap.size 0 (Lc l) rfl rfl HT.out HZ.out (Lc_one l) ?_))
  have e := setCells_row HL.out HG.out Zc_size
  rw [e]
  exact bodyPost_ret (results_cell_row rfl _ _ w.heap.size TBl (Lc l) (0, 0) _ rfl (setRow_heap _ _ _ _ _ _ HG.out) Tryz.underlying132 rfl HZ.out) rfl ⟨rfl, ⟨HB.out.os, HB.out.tape, HB.out.output, by simpa [World.setRow] using HB.out.size, fun i hi => (setRow_other _ _ _ _ (by omega)).trans (HB.out.block i hi)⟩⟩
end Go.Proofs.YtijimcjmpeakpaaGreat.K
