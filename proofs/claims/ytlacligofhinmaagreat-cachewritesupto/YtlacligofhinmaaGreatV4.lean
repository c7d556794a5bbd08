import Derived.Test.YtlacligofhinmaaGreatV3
import Derived.Laws.CopyRow
namespace Go.Proofs.YtlacligofhinmaaGreat.K
open Go.RowKit Go.Maps Go.Proofs.YtlacligofhinmaaGreat
attribute [local go_sem] Oper.semAt_some
set_option linter.unusedVariables false
set_option linter.unusedSimpArgs false
set_option maxRecDepth 100000

theorem infoBl : (Tryz.prog.info? TBl).map (fun i => (i.zero, i.size)) = some (some (.agg (Array.replicate 512 (.int .u8 0))), 512) := by kernel_rfl
def Zc : Array Value := Array.replicate 512 (.int .u8 0)
theorem Zc_eq : Zc = (z512.map bv).toArray := by
  apply Array.toList_inj.1
  unfold Zc z512
  rw [Array.toList_replicate, List.map_replicate]
  rfl
theorem zeroBl (w : World) : (zeroValue TBl).run Tryz.prog w = .ok (.agg Zc) w := (zero_of_info infoBl).1 w
theorem sizeBl : (Tryz.prog.info? TBl).map (·.size) = some 512 := (zero_of_info infoBl).2
theorem sizeU8 : (Tryz.prog.info? 5).map (·.size) = some 1 := by kernel_rfl
/-- a sector's cells -/
def Lc (l : Bl) : Array Value := (l.map bv).toArray
theorem Lc_size {l : Bl} (h : OkB l) : (Lc l).size = 512 := by simp [Lc, h.len]
theorem Zc_size : Zc.size = 512 := by simp [Zc]
theorem Lc_one (l : Bl) : (Lc l).all (·.oneCell') = true := all_oneCell_toArray (fun v hv => by obtain ⟨x, _, rfl⟩ := List.mem_map.1 hv; rfl)
theorem Lc_one' (l : Bl) : ∀ v ∈ l.map bv, v.oneCell' = true := fun v hv => by obtain ⟨x, _, rfl⟩ := List.mem_map.1 hv; rfl

theorem there_row {w : World} {b : Nat} {cs : Array Value} {T : TypeId} (h : w.heap[b]? = some (.cells cs T (0, 0))) {o n : Nat} (hn : o + n ≤ cs.size) : w.there b o n := fun j hj => by
  refine ⟨?_, frozen_of h⟩
  rw [cell_of h, Array.getElem?_eq_getElem (by omega)]; rfl
/-- a whole row written over -/
theorem setCells_row {w : World} {b : Nat} {old : Array Value} {T : TypeId} {l : Bl} (hl : OkB l) (h : w.heap[b]? = some (.cells old T (0, 0))) (ho : old.size = 512) : w.setCells b 0 (Lc l).toList = w.setRow b (Lc l) := by
  have hi : (Tryz.prog.info? TBl).map (·.size) = some (Lc l).size := by rw [Lc_size hl]; exact sizeBl
  have h1 := run_storeVar_mid (P := Tryz.prog) w b 0 TBl (Lc l) (there_row h (by rw [Lc_size hl, ho]; decide)) hi (Lc_one l)
  have h2 := run_storeVar_row (P := Tryz.prog) w b T TBl old (Lc l) h hi (by rw [Lc_size hl, ho]) (Lc_one l)
  rw [h1] at h2
  simpa using h2
set_option maxHeartbeats 2000000 in
theorem block_any {w : World} {a : Addr} {n cap : Nat} {l : Bl} (hl : OkB l) (hn : 512 ≤ n) (hsrc : ∀ j v, (l.map bv)[j]? = some v → w.cell? (a.add j) = some v) :
    Calls Tryz.prog 155 #[.slice (some a) n cap] w fun r w' => r = .returned (bval l) ∧ Below w.heap.size w w' := by
  have hz := zeroBl
  have hB0 : Below w.heap.size w (w.alloc (.cells Zc TBl)) := (Below.refl _ w).alloc (Nat.le_refl _) _
  have hB1 : Below w.heap.size w ((w.alloc (.cells Zc TBl)).alloc (.cells Zc TBl)) := hB0.alloc (by simp) _
  have hcp : ∀ ty, (Builtin.copy_ #[52, 52] ty #[.slice (some ⟨w.heap.size + 1, 0, none⟩) 512 512, .slice (some a) n cap]).run Tryz.prog ((w.alloc (.cells Zc TBl)).alloc (.cells Zc TBl)) = .ok (goInt 512) ((w.alloc (.cells Zc TBl)).alloc (.cells (Lc l) TBl)) := fun ty => by
    have h1 := run_copy_row (P := Tryz.prog) ((w.alloc (.cells Zc TBl)).alloc (.cells Zc TBl)) 52 52 ty 5 (w.heap.size + 1) 0 512 512 a n cap Zc TBl (l.map bv) Tryz.underlying52 sizeU8 (by have := heap_alloc_new (w.alloc (.cells Zc TBl)) (.cells Zc TBl); rw [World.size_alloc] at this; exact this) (by rw [List.length_map, hl.len]; exact (Nat.min_eq_right hn).symm) (fun j v hv => cell_later hB1 (hsrc j v hv)) (by rw [List.length_map, hl.len, Zc_size]; decide) (Lc_one' l)
    rw [List.length_map, hl.len] at h1
    have h2 := World.setRow_alloc_new (w.alloc (.cells Zc TBl)) Zc (Lc l) TBl
    rw [World.size_alloc] at h2
    have e : (Zc.toList.take 0 ++ l.map bv ++ Zc.toList.drop (0 + 512)).toArray = Lc l := by simp [Lc, Zc]
    rw [e, h2] at h1
    exact h1
  have HB : Hid (Below w.heap.size w ((w.alloc (.cells Zc TBl)).alloc (.cells (Lc l) TBl))) := hB0.alloc (by simp) _
  have HG : Hid (((w.alloc (.cells Zc TBl)).alloc (.cells (Lc l) TBl)).heap[w.heap.size]? = some (.cells Zc TBl)) := (Below.heap_alloc _ _ _ (by simp)).trans (heap_alloc_new w _)
  have HG1 : Hid (((w.alloc (.cells Zc TBl)).alloc (.cells (Lc l) TBl)).heap[w.heap.size + 1]? = some (.cells (Lc l) TBl)) := by
    have := heap_alloc_new (w.alloc (.cells Zc TBl)) (.cells (Lc l) TBl)
    rw [World.size_alloc] at this
    exact this
  have HL : Hid (OkB l) := hl
  have HZ : Hid ((Tryz.prog.info? TBl).map (·.size) = some (Lc l).size) := by show _ = _; rw [Lc_size hl]; exact sizeBl
  have HT : Hid (((w.alloc (.cells Zc TBl)).alloc (.cells (Lc l) TBl)).there w.heap.size 0 (Lc l).size) := there_row HG.out (by rw [Lc_size hl, Zc_size]; decide)
  clear hB0 hB1 hl hn hsrc
  go_enter Tryz.func155, Tryz.ntmps155
  go_wp2_with (first | (refine wpList_load_row rfl TBl _ rfl (w.heap.size + 1) rfl TBl (Lc l) (0, 0) _ HG1.out Tryz.underlying136 rfl HZ.out ?_) | (refine wpList_store_mid rfl TBl _ _ rfl w.heap.size 0 (Lc l) rfl rfl HT.out HZ.out (Lc_one l) ?_))
  have e := setCells_row HL.out HG.out Zc_size
  rw [e]
  exact bodyPost_ret (results_cell_row rfl _ _ w.heap.size TBl (Lc l) (0, 0) _ rfl (setRow_heap _ _ _ _ _ _ HG.out) Tryz.underlying136 rfl HZ.out) rfl ⟨rfl, ⟨HB.out.os, HB.out.tape, HB.out.output, by simpa [World.setRow] using HB.out.size, fun i hi => (setRow_other _ _ _ _ (by omega)).trans (HB.out.block i hi)⟩⟩
end Go.Proofs.YtlacligofhinmaaGreat.K
