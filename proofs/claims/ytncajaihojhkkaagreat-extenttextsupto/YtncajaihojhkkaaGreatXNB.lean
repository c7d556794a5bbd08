import Derived.Test.YtncajaihojhkkaaGreatXJB
namespace Go.Proofs.YtncajaihojhkkaaGreat.B
open Go.RowKit Go.Sort
set_option linter.unusedVariables false
set_option linter.unusedSimpArgs false
set_option maxRecDepth 100000

abbrev TMap : TypeId := 94
/-- a map of one's own -/
structure MO (w : World) (B bm : Nat) (v : Value) (size : Int) (rs : List (Rn Bool)) : Prop where
  blk : w.heap[bm]? = some (.cells #[.bool true, .int .i64 size, v] TMap (0, 0))
  row : w.ownsRow B TRun 3 v rs.length (rcells E rs)
  base : B ≤ bm
  tiles : Tiles 0 size rs
  alt : Alt rs
  le : size ≤ 1099511627776
theorem MO.pos {w : World} {B bm : Nat} {v : Value} {size : Int} {rs : List (Rn Bool)} (h : MO w B bm v size rs) : 0 ≤ size := h.tiles.le
theorem MO.ltm {w : World} {B bm : Nat} {v : Value} {size : Int} {rs : List (Rn Bool)} (h : MO w B bm v size rs) : bm < w.heap.size := (Array.getElem?_eq_some_iff.1 h.blk).1
theorem MO.c {w : World} {B bm : Nat} {v : Value} {size : Int} {rs : List (Rn Bool)} (h : MO w B bm v size rs) (j : Nat) : w.cell? ⟨bm, j, none⟩ = #[.bool true, .int .i64 size, v][j]? := by
  unfold World.cell?; rw [h.blk]; simp
theorem MO.fz {w : World} {B bm : Nat} {v : Value} {size : Int} {rs : List (Rn Bool)} (h : MO w B bm v size rs) (j : Nat) : w.frozen? ⟨bm, j, none⟩ = false := by
  unfold World.frozen?; rw [h.blk]; simp
/-- the two blocks are two: their types differ -/
theorem MO.sep {w : World} {B bm : Nat} {v : Value} {size : Int} {rs : List (Rn Bool)} (h : MO w B bm v size rs) : ∀ g, v.ownBlock = some g → g ≠ bm := by
  rintro g hg rfl
  rcases h.row.2 with ⟨hv, _⟩ | ⟨g', cap, cur, hv, _, hc, _⟩
  · rw [hv] at hg; cases hg
  · rw [hv] at hg
    simp only [Value.ownBlock, Option.some.injEq] at hg
    subst hg
    have := h.blk.symm.trans hc
    simp [TMap, TRun] at this
theorem MO.same {w w' : World} {B bm : Nat} {v : Value} {size : Int} {rs : List (Rn Bool)} (h : MO w B bm v size rs) (h1 : w'.heap[bm]? = w.heap[bm]?) (h2 : ∀ g, v.ownBlock = some g → w'.heap[g]? = w.heap[g]?) : MO w' B bm v size rs := by
  refine ⟨h1.trans h.blk, ⟨h.row.1, ?_⟩, h.base, h.tiles, h.alt, h.le⟩
  rcases h.row.2 with hv | ⟨g, cap, cur, hv, hg, hc, hr⟩
  · exact .inl hv
  · exact .inr ⟨g, cap, cur, hv, hg, (h2 g (by rw [hv]; rfl)).trans hc, hr⟩
theorem MO.later {w w' : World} {B bm : Nat} {v : Value} {size : Int} {rs : List (Rn Bool)} (h : MO w B bm v size rs) (hb : Below w.heap.size w w') : MO w' B bm v size rs :=
  h.same (hb.block _ h.ltm) (fun g hg => hb.block g (h.row.lt g hg).2)
theorem MO.len {w : World} {B bm : Nat} {v : Value} {size : Int} {rs : List (Rn Bool)} (h : MO w B bm v size rs) : rs.length ≤ 1099511627776 := by
  have h1 := h.tiles.length
  have h2 := h.le
  omega
theorem MO.rm {w : World} {B bm : Nat} {v : Value} {size : Int} {rs : List (Rn Bool)} (h : MO w B bm v size rs) (hp : 0 < size) : ∃ g cap, v = .slice (some ⟨g, 0, none⟩) rs.length cap ∧ B ≤ g ∧ g < w.heap.size ∧ cap ≤ maxLen ∧ RM w bm g cap size rs := by
  have hne : 0 < rs.length := by
    cases rs with
    | nil => have := h.tiles; simp only [Tiles] at this; omega
    | cons r t => simp
  rcases h.row.2 with ⟨_, hn⟩ | ⟨g, cap, cur, hv, hg, hc, hr1, hr2, _⟩
  · omega
  · refine ⟨g, cap, hv, hg, (Array.getElem?_eq_some_iff.1 hc).1, hr2, ⟨h.c 0, h.c 1, (h.c 2).trans (by rw [hv]; rfl), fun j u hu => ?_, h.tiles, hp, ?_, hr1⟩⟩
    · have := h.row.cells (g := g) (by rw [hv]; rfl) j u hu
      rwa [WideShapes.add_plain, Nat.zero_add] at this
    · have := h.len; omega

theorem joined_one (size : Int) (v : Bool) (h : 0 ≤ size) : Tiles 0 size (joined [⟨0, size, v⟩]) ∧ Alt (joined [⟨0, size, v⟩]) ∧ (∀ i u, Has (joined [⟨0, size, v⟩]) i u ↔ (0 ≤ i ∧ i < size ∧ v = u)) := by
  obtain ⟨a1, a2, a3, _, _⟩ := joinStep_spec (a := 0) (b := 0) (l := []) (p := (⟨0, size, v⟩ : Rn Bool)) rfl trivial rfl h
  refine ⟨a1, a2, fun i u => (a3 i u).trans ?_⟩
  simp [has_nil]

theorem new_bad (size : Int) (v : Value) (w : World) (h : size < 0 ∨ 1099511627776 < size) :
    Calls Tryz.prog 45 #[.int .i64 size, v] w fun e w' => e = .returned (.tuple #[.pointer none, .int .i64 20]) ∧ w' = w := by
  go_enter Tryz.func45, Tryz.ntmps45
  by_cases h0 : size < 0
  · go_wp2
    go_ret2
    exact ⟨rfl, rfl⟩
  · have h1 : 1099511627776 < size := by omega
    go_wp2
    go_ret2
    exact ⟨rfl, rfl⟩
set_option maxHeartbeats 1000000 in
theorem new_any (size : Int) (v : Bool) (w : World) (h0 : 0 ≤ size) (h1 : size ≤ 1099511627776) :
    Calls Tryz.prog 45 #[.int .i64 size, .bool v] w fun e w' => ∃ bm vv, e = .returned (.tuple #[.pointer (some ⟨bm, 0, none⟩), .int .i64 0]) ∧ MO w' w.heap.size bm vv size (joined [⟨0, size, v⟩]) ∧ Below w.heap.size w w' := by
  have HJ := joined_one size v h0
  have hJ : ∀ W : World, W.heap.size = w.heap.size → Calls Tryz.prog 60 #[.slice (some ⟨w.heap.size, 0, none⟩) 1 1] (W.alloc (.cells #[.int .i64 0, .int .i64 size, .bool v] TRun)) fun e w' => ∃ vv, e = .returned vv ∧ w'.ownsRow (w.heap.size + 1) TRun 3 vv (joined [⟨0, size, v⟩]).length (rcells E (joined [⟨0, size, v⟩])) ∧ Below (w.heap.size + 1) (W.alloc (.cells #[.int .i64 0, .int .i64 size, .bool v] TRun)) w' := fun W hW => by
    have := joined_any w.heap.size 1 [⟨0, size, v⟩] (W.alloc (.cells #[.int .i64 0, .int .i64 size, .bool v] TRun)) (by simp) (fun j u hu => by
      have := news3 W w.heap.size hW ⟨0, size, v⟩ j u (by simpa [rcells] using hu)
      rwa [WideShapes.add_plain, Nat.zero_add] at this)
    rw [World.size_alloc, hW] at this
    exact this
  have HJ2 : Hid (Tiles 0 size (joined [⟨0, size, v⟩]) ∧ Alt (joined [⟨0, size, v⟩])) := ⟨HJ.1, HJ.2.1⟩
  clear HJ
  have h0' : ¬ size < 0 := by omega
  have h1' : ¬ 1099511627776 < size := by omega
  generalize joined [⟨0, size, v⟩] = rs at hJ HJ2 ⊢
  go_enter Tryz.func45, Tryz.ntmps45
  go_wp2_with (go_at_call 60; refine (hJ _ rfl).mono ?_; rintro e w' ⟨vv, rfl, hown, hb⟩; obtain ⟨ao, cp, rfl⟩ := owns_form hown; have HO : Hid (w'.ownsRow (w.heap.size + 1) TRun 3 (.slice ao rs.length cp) rs.length (rcells E rs)) := hown; clear hown)
  go_ret2
  have hw := hb.size
  simp at hw
  refine ⟨_, _, rfl, ⟨heap_alloc_new w' _, ?_, by omega, HJ2.out.1, HJ2.out.2, h1⟩, ?_⟩
  · refine (World.ownsRow.alloc ⟨HO.out.1, ?_⟩ _)
    rcases HO.out.2 with hv | ⟨g, cap, cur, hv, hg, hr⟩
    · exact .inl hv
    · exact .inr ⟨g, cap, cur, hv, by omega, hr⟩
  · exact (((Below.refl w.heap.size w).alloc (Nat.le_refl _) _).trans (hb.mono (by omega))).alloc (by omega) _
end Go.Proofs.YtncajaihojhkkaaGreat.B
