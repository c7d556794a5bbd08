import Derived.Test.YtncajaihojhkkaaGreatETa
namespace Go.Proofs.YtncajaihojhkkaaGreat.I
open Go.RowKit Go.Sort Go.Lib Go.Shelf Go.Proofs.YtncajaihojhkkaaGreat
attribute [local go_sem] Oper.semAt_some
set_option linter.unusedVariables false
set_option linter.unusedSimpArgs false
set_option maxRecDepth 100000

abbrev TDM : TypeId := 65
/-- the document's map: its first value and what was set -/
structure DM (w : World) (B bd : Nat) (sv : Value) (size first : Int) (S : List Put) : Prop where
  blk : w.heap[bd]? = some (.cells #[.bool true, .int .i64 size, .int .i64 first, sv] TDM (0, 0))
  row : w.ownsRow B TEnt 3 sv S.length (qcells S)
  base : B ≤ bd
  may : ∀ q ∈ S, may size q.1 q.2.1
theorem DM.ltm {w : World} {B bd : Nat} {sv : Value} {size first : Int} {S : List Put} (h : DM w B bd sv size first S) : bd < w.heap.size := (Array.getElem?_eq_some_iff.1 h.blk).1
theorem DM.c {w : World} {B bd : Nat} {sv : Value} {size first : Int} {S : List Put} (h : DM w B bd sv size first S) (j : Nat) : w.cell? ⟨bd, j, none⟩ = #[.bool true, .int .i64 size, .int .i64 first, sv][j]? := by
  unfold World.cell?; rw [h.blk]; simp
theorem DM.fz {w : World} {B bd : Nat} {sv : Value} {size first : Int} {S : List Put} (h : DM w B bd sv size first S) (j : Nat) : w.frozen? ⟨bd, j, none⟩ = false := by
  unfold World.frozen?; rw [h.blk]; simp
theorem KX.dm {K : Nat → Prop} {A C : World} (h : KX K A C) {B bd : Nat} {sv : Value} {size first : Int} {S : List Put} (hm : DM A B bd sv size first S) (h1 : ¬ K bd) (hS : ∀ g, sv.ownBlock = some g → ¬ K g) : DM C B bd sv size first S :=
  ⟨(h.block _ hm.ltm h1).trans hm.blk, h.row hm.row hS, hm.base, hm.may⟩
theorem DM.later {w w' : World} {B bd : Nat} {sv : Value} {size first : Int} {S : List Put} (h : DM w B bd sv size first S) (hb : Below w.heap.size w w') : DM w' B bd sv size first S :=
  (KX.of_below (S := fun _ => False) hb).dm h (fun f => f) (fun _ _ f => f)
theorem dNew_any (size first : Int) (w : World) (h0 : 0 ≤ size) (h1 : size ≤ 1099511627776) :
    Calls Tryz.prog 8 #[.int .i64 size, .int .i64 first] w fun e w' => e = .returned (.tuple #[.pointer (some ⟨w.heap.size, 0, none⟩), .int .i64 0]) ∧ DM w' w.heap.size w.heap.size (.slice none 0 0) size first [] ∧ Below w.heap.size w w' := by
  have hD : DM (w.alloc (.cells #[.bool true, .int .i64 size, .int .i64 first, .slice none 0 0] TDM)) w.heap.size w.heap.size (.slice none 0 0) size first [] := ⟨heap_alloc_new w _, World.ownsRow_nil _ _ _ _, Nat.le_refl _, fun q hq => by simp at hq⟩
  go_enter Tryz.func8, Tryz.ntmps8
  go_wp2
  go_ret2
  exact ⟨rfl, hD, (Below.refl _ w).alloc (Nat.le_refl _) _⟩
theorem dNew_bad (size first : Int) (w : World) (h : size < 0 ∨ 1099511627776 < size) :
    Calls Tryz.prog 8 #[.int .i64 size, .int .i64 first] w fun e w' => e = .returned (.tuple #[.pointer (some ⟨w.heap.size, 0, none⟩), .int .i64 20]) ∧ w' = w.alloc (.cells #[.bool false, .int .i64 0, .int .i64 0, .slice none 0 0] TDM) := by
  go_enter Tryz.func8, Tryz.ntmps8
  by_cases h0 : size < 0
  · clear h
    go_wp2
    go_ret2
    exact ⟨rfl, rfl⟩
  · have h1 : 1099511627776 < size := by omega
    clear h
    go_wp2
    go_ret2
    exact ⟨rfl, rfl⟩
/-- what a Set leaves of the document's map -/
def DSet (w : World) (B bd : Nat) (sv : Value) (size first : Int) (S' : List Put) (w' : World) : Prop := ∃ sv', DM w' B bd sv' size first S' ∧ KX (fun k => k = bd ∨ sv.ownBlock = some k) w w' ∧ (sv'.ownBlock = sv.ownBlock ∨ ∀ g, sv'.ownBlock = some g → w.heap.size ≤ g)
theorem dSet_no {w : World} {B bd : Nat} {sv : Value} {size first : Int} {S : List Put} (h : DM w B bd sv size first S) (lo hi v : Int) (hm : ¬ I.may size lo hi) :
    Calls Tryz.prog 11 #[.pointer (some ⟨bd, 0, none⟩), .int .i64 lo, .int .i64 hi, .int .i64 v] w fun e w' => e = .returned (.int .i64 21) ∧ w' = w := by
  have c0 : w.cell? ⟨bd, 0, none⟩ = some (.bool true) := h.c 0
  have c1 : w.cell? ⟨bd, 1, none⟩ = some (.int .i64 size) := h.c 1
  clear h
  go_enter Tryz.func11, Tryz.ntmps11
  by_cases h0 : lo < 0
  · clear hm
    go_wp2
    go_ret
    exact ⟨rfl, rfl⟩
  · by_cases h1 : hi < lo
    · clear hm
      go_wp2
      go_ret
      exact ⟨rfl, rfl⟩
    · have h2 : size < hi := Int.not_le.1 (fun h2 => hm ⟨by omega, by omega, h2⟩)
      clear hm
      go_wp2
      go_ret
      exact ⟨rfl, rfl⟩
set_option maxHeartbeats 4000000 in
theorem dSet_yes {w : World} {B bd : Nat} {sv : Value} {size first : Int} {S : List Put} (h : DM w B bd sv size first S) (lo hi v : Int) (hm : I.may size lo hi) (hl : S.length ≤ 1099511627776) :
    Calls Tryz.prog 11 #[.pointer (some ⟨bd, 0, none⟩), .int .i64 lo, .int .i64 hi, .int .i64 v] w fun e w' => e = .returned (.int .i64 0) ∧ DSet w B bd sv size first (S ++ [(lo, hi, v)]) w' := by
  have c0 : w.cell? ⟨bd, 0, none⟩ = some (.bool true) := h.c 0
  have c1 : w.cell? ⟨bd, 1, none⟩ = some (.int .i64 size) := h.c 1
  have c3 : w.cell? ⟨bd, 3, none⟩ = some sv := h.c 3
  have f3 := h.fz 3
  obtain ⟨i0, hi0, hz0, hz1, hz2⟩ := info_parts infoEnt
  have HM : Hid (I.may size lo hi) := hm
  obtain ⟨m0, m1, m2⟩ := hm
  have hbB : B ≤ w.heap.size := Nat.le_trans h.base (Nat.le_of_lt h.ltm)
  obtain ⟨ao, cap, rfl⟩ := own_slice h.row
  have HD : Hid (DM w B bd (.slice ao S.length cap) size first S) := h
  clear h
  go_enter Tryz.func11, Tryz.ntmps11
  go_wp2_with (at_builtin; refine wpList_append_lies _ rfl (.tmp 33) (.tmp 38) TEnts rfl B TEnt i0 _ 3 24 Tryz.underlying39 hi0 hz0 hz1 hz2 rfl (by decide) _ _ _ rfl (HD.out.row.alloc _) ⟨w.heap.size, 0, none⟩ 1 1 [.int .i64 lo, .int .i64 hi, .int .i64 v] rfl rfl (newsE _ _ _ _) (by simp [Value.oneCell']) (by decide) (by unfold maxLen; omega) (by omega) (by simp; omega) _ rfl ?_; intro g' cap' wa hown hgrow hlies hlt'; have hnb : wa.heap[bd]? = w.heap[bd]? := (hgrow.block bd (by have := HD.out.ltm; simp; omega) (fun e => by obtain ⟨_, _, cs, h1⟩ := row_lt HD.out.row bd e.symm; rw [HD.out.blk] at h1; simp [TDM, TEnt] at h1)).trans (Below.heap_alloc _ _ _ HD.out.ltm); have q3 := (World.cell?_of_block (a := ⟨bd, 3, none⟩) hnb).trans c3; have q4 := (World.frozen?_of_block (a := ⟨bd, 3, none⟩) hnb).trans f3)
  go_ret
  have hk : KX (fun k => k = bd ∨ (Value.slice ao S.length cap).ownBlock = some k) w (wa.setCell ⟨bd, 3, none⟩ (.slice (some ⟨g', 0, none⟩) (S.length + 1) cap')) := by
    have h1 : KX (fun k => k = bd ∨ (Value.slice ao S.length cap).ownBlock = some k) w wa := ⟨hgrow.os, hgrow.tape, hgrow.output, by have := hgrow.size; simp at this; omega, fun k hlt hs => (hgrow.block k (by simp; omega) (fun e => hs (.inr e.symm))).trans (Below.heap_alloc _ _ _ hlt)⟩
    have h2 := kx_set wa bd 3 (.slice (some ⟨g', 0, none⟩) (S.length + 1) cap')
    exact h1.trans ⟨h2.os, h2.tape, h2.output, h2.size, fun k hlt hs => h2.block k hlt (fun e => hs (.inl e))⟩
  refine ⟨rfl, .slice (some ⟨g', 0, none⟩) (S.length + 1) cap', ⟨?_, ?_, HD.out.base, ?_⟩, hk, ?_⟩
  · exact blk_set (hnb.trans HD.out.blk) 3 _
  · rw [List.length_append, qcells_append]
    refine owns_same (by simpa [qcells, qcell] using hown) (fun g e => Below.heap_setCell _ _ _ _ (fun e2 => ?_))
    obtain ⟨_, _, cs, h1⟩ := row_lt hown g e
    have e3 : g = bd := e2
    rw [e3, hnb, HD.out.blk] at h1
    simp [TDM, TEnt] at h1
  · intro q hq
    rcases List.mem_append.1 hq with hq | hq
    · exact HD.out.may q hq
    · simp at hq; rw [hq]; exact HM.out
  · rcases hlies with h2 | h2
    · exact .inl (Eq.symm h2)
    · exact .inr (fun g e => by simp [Value.ownBlock] at e; rw [World.size_alloc] at h2; omega)
end Go.Proofs.YtncajaihojhkkaaGreat.I
