import Derived.Test.YtncajaihojhkkaaGreatXAS
namespace Go.Proofs.YtncajaihojhkkaaGreat.S
open Go.RowKit Go.Sort
set_option linter.unusedVariables false
set_option linter.unusedSimpArgs false
set_option maxRecDepth 100000

abbrev E : ByteArray → Value := fun x => .string x
abbrev TRun : TypeId := 46

/-- a map that can be read: its cells, its runs' cells -/
structure RM (w : World) (bm g cap : Nat) (size : Int) (rs : List (Rn ByteArray)) : Prop where
  c0 : w.cell? ⟨bm, 0, none⟩ = some (.bool true)
  c1 : w.cell? ⟨bm, 1, none⟩ = some (.int .i64 size)
  c2 : w.cell? ⟨bm, 2, none⟩ = some (.slice (some ⟨g, 0, none⟩) rs.length cap)
  cs : ∀ j u, (rcells E rs)[j]? = some u → w.cell? ⟨g, j, none⟩ = some u
  tiles : Tiles 0 size rs
  pos : 0 < size
  small : rs.length < 4611686018427387904
  hcap : rs.length ≤ cap

theorem RM.ne {w : World} {bm g cap : Nat} {size : Int} {rs : List (Rn ByteArray)} (h : RM w bm g cap size rs) : rs ≠ [] := by
  rintro rfl
  have := h.tiles
  simp only [Tiles] at this
  have := h.pos
  omega
theorem RM.run {w : World} {bm g cap : Nat} {size : Int} {rs : List (Rn ByteArray)} (h : RM w bm g cap size rs) {k : Nat} {r : Rn ByteArray} (hk : rs[k]? = some r) :
    w.cell? ⟨g, k * 3, none⟩ = some (.int .i64 r.lo) ∧ w.cell? ⟨g, k * 3 + 1, none⟩ = some (.int .i64 r.hi) ∧ w.cell? ⟨g, k * 3 + 2, none⟩ = some (.string r.v) :=
  ⟨h.cs _ _ (rcells_get E rs k r hk 0 (by omega)), h.cs _ _ (rcells_get E rs k r hk 1 (by omega)), h.cs _ _ (rcells_get E rs k r hk 2 (by omega))⟩
theorem RM.ltg {w : World} {bm g cap : Nat} {size : Int} {rs : List (Rn ByteArray)} (h : RM w bm g cap size rs) : g < w.heap.size := by
  obtain ⟨r, t, e⟩ := List.exists_cons_of_ne_nil h.ne
  exact World.block_lt_of_cell? _ _ (h.run (k := 0) (r := r) (by rw [e]; rfl)).1
theorem RM.ltm {w : World} {bm g cap : Nat} {size : Int} {rs : List (Rn ByteArray)} (h : RM w bm g cap size rs) : bm < w.heap.size := World.block_lt_of_cell? _ _ h.c0
/-- it stays, where its two blocks stay -/
theorem RM.same {w w' : World} {bm g cap : Nat} {size : Int} {rs : List (Rn ByteArray)} (h : RM w bm g cap size rs) (h1 : w'.heap[bm]? = w.heap[bm]?) (h2 : w'.heap[g]? = w.heap[g]?) : RM w' bm g cap size rs :=
  ⟨(World.cell?_of_block (a := ⟨bm, 0, none⟩) h1).trans h.c0, (World.cell?_of_block (a := ⟨bm, 1, none⟩) h1).trans h.c1, (World.cell?_of_block (a := ⟨bm, 2, none⟩) h1).trans h.c2, fun j u hu => (World.cell?_of_block (a := ⟨g, j, none⟩) h2).trans (h.cs j u hu), h.tiles, h.pos, h.small, h.hcap⟩
theorem RM.later {w w' : World} {bm g cap : Nat} {size : Int} {rs : List (Rn ByteArray)} (h : RM w bm g cap size rs) (hb : Below w.heap.size w w') : RM w' bm g cap size rs := h.same (hb.block _ h.ltm) (hb.block _ h.ltg)

set_option maxHeartbeats 2000000 in
theorem find_any {w : World} {bm g cap : Nat} {size : Int} {rs : List (Rn ByteArray)} (h : RM w bm g cap size rs) (i : Int) :
    Calls Tryz.prog 35 #[.pointer (some ⟨bm, 0, none⟩), .int .i64 i] w fun e w' => e = .returned (.int .i64 (find rs i : Nat)) ∧ ∃ q os, w' = grow (w.drewN q) os := by
  have : Inhabited (Rn ByteArray) := ⟨⟨0, 0, ByteArray.empty⟩⟩
  obtain ⟨W0, hW0⟩ : ∃ W0, W0 = (w.alloc (.cells #[.pointer (some ⟨bm, 0, none⟩)] 24)).alloc (.cells #[.int .i64 i] 2) := ⟨_, rfl⟩
  have hsize : W0.heap.size = w.heap.size + 1 + 1 := by rw [hW0]; simp
  have ca : W0.cell? ⟨w.heap.size, 0, none⟩ = some (.pointer (some ⟨bm, 0, none⟩)) := by rw [hW0]; exact cell_alloc_sl _ (cell_new_sl w _ _)
  have cx : W0.cell? ⟨w.heap.size + 1, 0, none⟩ = some (.int .i64 i) := by rw [hW0]; have := cell_new_sl (w.alloc (.cells #[.pointer (some ⟨bm, 0, none⟩)] 24)) (.int .i64 i) 2; rwa [World.size_alloc] at this
  have hB0 : Below w.heap.size w W0 := by rw [hW0]; exact ((Below.refl _ w).alloc (Nat.le_refl _) _).alloc (by simp) _
  have h0 := h.later hB0
  have eg : ∀ args w, (callFunc 48 args).run Tryz.prog w = .ok (.enter 48 args) w := enters_of Tryz.func48 (by kernel_rfl) rfl
  have hg : ∀ k, k < rs.length → rs.toArray[k]! = rs[k]?.getD default := fun k hk => by simp [hk]
  have hS := Any.sort_Search Tryz.search 48 #[.pointer (some ⟨w.heap.size, 0, none⟩), .pointer (some ⟨w.heap.size + 1, 0, none⟩)] rs.toArray.size (fun k => decide (i < (rs.toArray[k]!).hi)) W0 eg (by simpa using h.small)
    (fun m os k hk => (find1_any w.heap.size (w.heap.size + 1) bm g rs.length cap k i (rs.toArray[k]!).hi _ (by simpa using hk) (cell_grown (by simp [hsize]; omega) ca m os) (cell_grown (by simp [hsize]) cx m os) (cell_grown h0.ltm h0.c2 m os)
        (cell_grown h0.ltg (h0.run (by
          have hk' : k < rs.length := by simpa using hk
          rw [hg k hk', List.getElem?_eq_getElem hk']; rfl)).2.1 m os)).mono
      fun _ _ ⟨he, q, hq⟩ => ⟨he, q, #[], by rw [hq, grow_empty]⟩) (fun a b hab hb hh => by
        have hb' : b < rs.length := by simpa using hb
        have ha' : a < rs.length := by omega
        rw [hg a ha', List.getElem?_eq_getElem ha'] at hh
        rw [hg b hb', List.getElem?_eq_getElem hb']
        simp only [Option.getD_some, decide_eq_true_eq] at hh ⊢
        exact find_mono h.tiles i hab hb' hh)
  rw [Lib.countP_range rs.toArray (fun r => !decide (i < r.hi))] at hS
  have hf : rs.toArray.toList.countP (fun r => !decide (i < r.hi)) = find rs i := by
    unfold find
    congr 1
    funext r
    by_cases hr : i < r.hi
    · have h' : ¬ r.hi ≤ i := by omega
      simp [hr, h']
    · have h' : r.hi ≤ i := by omega
      simp [hr, h']
  rw [hf] at hS
  change Calls Tryz.prog 42 _ _ _ at hS
  have hsz : rs.toArray.size = rs.length := by simp
  rw [hsz] at hS
  have hw2 := h.c2
  have hcc : W0.cell? ⟨bm, 2, none⟩ = some (.slice (some ⟨g, 0, none⟩) rs.length cap) := h0.c2
  rw [hW0] at hcc ca cx
  clear hB0 h0 eg hg hf
  generalize find rs i = r at hS ⊢
  generalize rs.length = n at hS hw2 hcc
  go_enter Tryz.func35, Tryz.ntmps35
  go_wp2_with (go_at_call 42; rw [← hW0]; refine hS.mono ?_; rintro e w' ⟨rfl, q, os, rfl⟩)
  go_ret
  refine ⟨rfl, q, #[.cells #[.pointer (some ⟨bm, 0, none⟩)] 24, .cells #[.int .i64 i] 2] ++ os, ?_⟩
  rw [alloc_eq_grow, alloc_eq_grow]
  show grow (grow (grow (w.drewN q) _) _) os = _
  rw [grow_grow, grow_grow, ← Array.append_assoc]
  rfl
end Go.Proofs.YtncajaihojhkkaaGreat.S
