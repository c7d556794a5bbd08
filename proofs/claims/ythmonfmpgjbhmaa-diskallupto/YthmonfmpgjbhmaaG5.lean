import Derived.Test.YthmonfmpgjbhmaazKR
import Derived.Great.BuildSlice
namespace Go.Proofs.Ythmonfmpgjbhmaa.K
open Go.RowKit Go.Maps Go.Proofs.Ythmonfmpgjbhmaa
attribute [local go_sem] Oper.semAt_some
set_option linter.unusedVariables false
set_option linter.unusedSimpArgs false
set_option maxRecDepth 100000

def f0 : Value := .agg #[.int .i64 0, .int .i64 0, .int .i64 0, .int .i64 0, .bool false]
set_option maxHeartbeats 2000000 in
theorem fail_none {w : World} {lk : Int} {b ms ml : Nat} {qv fv : Value} {S : Dk} (h : RK w lk b ms ml qv fv S) (hf : S.fs = []) (kind s : Int) :
    Calls Try.prog 34 #[.pointer (some ⟨b, 0, none⟩), .int .i64 kind, .int .i64 s] w fun r w' => r = .returned (.tuple #[.agg #[.int .i64 0, .int .i64 0, .int .i64 0, .int .i64 0, .bool false], .bool false]) ∧ Below w.heap.size w w' := by
  have hB0 : Below w.heap.size w (w.alloc (.cells #[.int .i64 0, .int .i64 0, .int .i64 0, .int .i64 0, .bool false] TFa)) := (Below.refl _ w).alloc (Nat.le_refl _) _
  have HB : Hid (Below w.heap.size w (w.alloc (.cells #[.int .i64 0, .int .i64 0, .int .i64 0, .int .i64 0, .bool false] TFa))) := hB0
  have h0 := h.later hB0
  have c6 : (w.alloc (.cells #[.int .i64 0, .int .i64 0, .int .i64 0, .int .i64 0, .bool false] TFa)).cell? ⟨b, 6, none⟩ = some fv := h0.c 6
  obtain ⟨ao, cap, rfl⟩ : ∃ ao cap, fv = .slice ao 0 cap := by
    have h1 := h.fr
    rw [hf] at h1
    rcases h1.2 with ⟨rfl, _⟩ | ⟨g, cap, cur, rfl, _⟩
    · exact ⟨_, _, rfl⟩
    · exact ⟨_, _, rfl⟩
  clear h h0 hf hB0
  go_enter Try.func34, Try.ntmps34
  go_wp2
  refine wp_loop_rounds 1 ?_
  rw [rounds_succ]
  go_wp2
  exact bodyPost_ret (v := .tuple #[.agg #[.int .i64 0, .int .i64 0, .int .i64 0, .int .i64 0, .bool false], .bool false]) (by simp [results, Try.results34, asAddr, go_sem]) rfl ⟨rfl, HB.out⟩
end Go.Proofs.Ythmonfmpgjbhmaa.K

namespace Go.Proofs.Ythmonfmpgjbhmaa.K
open Go.RowKit Go.Maps Go.Proofs.Ythmonfmpgjbhmaa
set_option linter.unusedVariables false
set_option linter.unusedSimpArgs false
set_option maxRecDepth 100000

def Zp : Array Value := #[.int .i64 0] ++ Array.replicate 512 (.int .u8 0)
theorem infoPu : (Try.prog.info? TPu).map (fun i => (i.zero, i.size, i.bytes)) = some (some (.agg Zp), 513, 520) := by kernel_rfl
/-- a write's cells -/
def Pc (s : Int) (l : Bl) : Array Value := #[.int .i64 s] ++ Lc l
theorem Pc_size {s : Int} {l : Bl} (h : OkB l) : (Pc s l).size = 513 := by simp [Pc, Lc_size h]
theorem Pc_list (s : Nat) (l : Bl) : (Pc s l).toList = pcell (s, l) := by simp [Pc, Lc, pcell]
theorem Zp_size : Zp.size = 513 := by simp [Zp]
/-- one part that fits -/
theorem fill_one {place : Nat → Option (Nat × Nat)} {cells : Array Value} {i off : Nat} {v : Value} {rest : List (Nat × Value)} (hp : place i = some (off, v.cells.size)) (hf : off + v.cells.size ≤ cells.size) :
    ∃ r, Instr.fill place cells ((i, v) :: rest) = Instr.fill place r rest ∧ r.size = cells.size ∧ ∀ k, r[k]? = if off ≤ k ∧ k < off + v.cells.size then v.cells[k - off]? else cells[k]? := by
  have h := Great.foldl_set off v.cells.toList 0 cells
  refine ⟨_, ?_, h.1, fun k => ?_⟩
  · conv => lhs; unfold Instr.fill
    rw [hp]
    simp only
    rw [if_neg (by simp; omega)]
    congr 1
    rw [← Array.foldl_toList, Array.toList_zipIdx]
  · rw [h.2 k]
    simp only [Nat.add_zero, Array.length_toList, Array.getElem?_toList]
    by_cases hk : off ≤ k ∧ k < off + v.cells.size
    · rw [if_pos hk, if_pos ⟨hk.1, hk.2, by omega⟩]
    · rw [if_neg hk, if_neg (fun h => hk ⟨h.1, h.2.1⟩)]
theorem fill_put {Z : Array Value} (hZ : Z.size = 513) (s : Int) {l : Bl} (hl : OkB l) : Instr.fill (fun x => ([(0, 1), (1, 512)] : List (Nat × Nat)).toArray[x]?) Z [(0, .int .i64 s), (1, .agg (Lc l))] = some (Pc s l) := by
  have hs := Lc_size hl
  have hc1 : (Value.int .i64 s).cells = #[.int .i64 s] := rfl
  have hc2 : (Value.agg (Lc l)).cells = Lc l := rfl
  obtain ⟨r1, e1, s1, g1⟩ := fill_one (place := fun x => ([(0, 1), (1, 512)] : List (Nat × Nat)).toArray[x]?) (cells := Z) (i := 0) (off := 0) (v := .int .i64 s) (rest := [(1, .agg (Lc l))]) (by rw [hc1]; rfl) (by rw [hc1, hZ]; simp)
  obtain ⟨r2, e2, s2, g2⟩ := fill_one (place := fun x => ([(0, 1), (1, 512)] : List (Nat × Nat)).toArray[x]?) (cells := r1) (i := 1) (off := 1) (v := .agg (Lc l)) (rest := []) (by rw [hc2, hs]; rfl) (by rw [s1, hc2, hs, hZ]; decide)
  rw [e1, e2]
  show some r2 = _
  congr 1
  apply Array.ext_getElem?
  intro k
  rw [g2 k, hc2, hs]
  by_cases hk : 1 ≤ k ∧ k < 1 + 512
  · rw [if_pos hk]
    unfold Pc
    rw [Array.getElem?_append_right (by simp; omega)]
    rfl
  · rw [if_neg hk, g1 k, hc1]
    by_cases h0 : k = 0
    · subst h0
      unfold Pc
      rw [if_pos (by simp), Array.getElem?_append_left (by simp)]
    · rw [if_neg (by simp; omega)]
      rw [Array.getElem?_eq_none (by rw [hZ]; omega), Array.getElem?_eq_none (by rw [Pc_size hl]; omega)]
theorem undPu : Try.prog.underlying TPu = some (.struct (Try.prog.fieldsOf TPu)) := by kernel_rfl
theorem plPu : (Try.prog.fieldsOf TPu).toList.mapM (fun f => (Try.prog.info? f.type).map fun i => (f.offset, i.size)) = some [(0, 1), (1, 512)] := by kernel_rfl
theorem built_put (s : Int) {l : Bl} (hl : OkB l) : Try.prog.built TPu [(0, .int .i64 s), (1, .agg (Lc l))] = some (Pc s l) := by
  obtain ⟨i0, hi, hz0, hz1, hz2⟩ := info_parts infoPu
  have hf := fill_put Zp_size s hl
  unfold Program.built
  rw [hi, undPu]
  simp only [hz0, plPu]
  exact hf
theorem run_put (w : World) (s : Int) {l : Bl} (hl : OkB l) : (Instr.build TPu #[(0, .int .i64 s), (1, .agg (Lc l))]).run Try.prog w = .ok (.agg (Pc s l)) w := run_build w TPu _ _ (built_put s hl)
theorem run_one (w : World) (s : Int) {l : Bl} (hl : OkB l) : (Instr.buildSlice TPus 1 #[(0, .agg (Pc s l))]).run Try.prog w = .ok (.slice (some ⟨w.heap.size, 0, none⟩) 1 1) (w.alloc (.cells (Pc s l) TPu)) := by
  obtain ⟨i0, hi, hz0, hz1, hz2⟩ := info_parts infoPu
  refine run_buildSlice w TPus TPu 1 _ _ i0 (.agg Zp) Try.underlying67 hi hz0 (by rw [hz1]; decide) (by rw [hz1]; decide) ?_
  rw [hz1]
  have hsz : ((Array.range (1 * 513)).map ((Value.agg Zp).cells[· % (Value.agg Zp).cells.size]!)).size = 513 := by simp
  obtain ⟨r, e, hs, g⟩ := fill_one (place := fun i => some (i * 513, 513)) (cells := (Array.range (1 * 513)).map ((Value.agg Zp).cells[· % (Value.agg Zp).cells.size]!)) (i := 0) (off := 0) (v := .agg (Pc s l)) (rest := []) (by simp [Value.cells, Pc_size hl]) (by rw [hsz]; simp [Value.cells, Pc_size hl])
  show Instr.fill _ _ [(0, Value.agg (Pc s l))] = _
  rw [e]
  show some r = _
  congr 1
  apply Array.ext_getElem?
  intro k
  rw [g k]
  simp only [Value.cells, Pc_size hl]
  by_cases hk : 0 ≤ k ∧ k < 0 + 513
  · rw [if_pos hk]; rfl
  · rw [if_neg hk, Array.getElem?_eq_none (by simp; omega), Array.getElem?_eq_none (by rw [Pc_size hl]; omega)]
end Go.Proofs.Ythmonfmpgjbhmaa.K
