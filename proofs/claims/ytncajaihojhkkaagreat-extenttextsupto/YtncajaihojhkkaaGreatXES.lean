import Derived.Test.YtncajaihojhkkaaGreatXYS
import Derived.Test.YtncajaihojhkkaaGreatXRS
namespace Go.Proofs.YtncajaihojhkkaaGreat.S
open Go.RowKit Go.Sort
set_option linter.unusedVariables false
set_option linter.unusedSimpArgs false
set_option maxRecDepth 100000

theorem joined3_len (a b c : Rn ByteArray) : (joined [a, b, c]).length ≤ 3 := by
  have e : joined [a, b, c] = joinStep (joinStep (joinStep [] a) b) c := rfl
  rw [e]
  have h1 := joinStep_length [] a
  have h2 := joinStep_length (joinStep [] a) b
  have h3 := joinStep_length (joinStep (joinStep [] a) b) c
  simp only [List.length_nil] at h1
  omega

theorem split_some {rs A B : List (Rn ByteArray)} {x : Rn ByteArray} {n : Nat} (e : rs = A ++ x :: B) (hl : A.length = n) : rs[n]? = some x ∧ n < rs.length := by
  subst e; subst hl; simp
/-- a Set's result, in the world -/
def SetTo (w : World) (B bm : Nat) (v : Value) (size : Int) (rs : List (Rn ByteArray)) (w' : World) : Prop := ∃ v', MO w' B bm v' size rs ∧ KeptM w w' bm v v'

/-- lay, by what Replace does -/
theorem lay_by {w : World} {B bm : Nat} {v : Value} {size : Int} {rs : List (Rn ByteArray)} (h : MO w B bm v size rs) (r : Rn ByteArray) (h0 : 0 ≤ r.lo) (h1 : r.lo < r.hi) (h2 : r.hi ≤ size)
    (HR : ∀ (g cap m : Nat) (js : List (Rn ByteArray)), v = .slice (some ⟨g, 0, none⟩) rs.length cap → js.length = m → 0 < m → m ≤ 3 → ∀ (W : World) (gv c : Nat), W.ownsRow B TRun 3 (.slice (some ⟨g, 0, none⟩) rs.length cap) rs.length (rcells E rs) → B ≤ W.heap.size → gv ≠ g →
      W.ownsRow B TRun 3 (.slice (some ⟨gv, 0, none⟩) m c) m (rcells E js) →
      Calls Tryz.prog 36 #[.slice (some ⟨g, 0, none⟩) rs.length cap, .int .i64 (find rs (max (r.lo - 1) 0) : Nat), .int .i64 (((find rs (min r.hi (size - 1)) : Nat) : Int) + 1), .slice (some ⟨gv, 0, none⟩) m c] W
        (RepRes W B g (rs.take (find rs (max (r.lo - 1) 0)) ++ js ++ rs.drop (find rs (min r.hi (size - 1)) + 1)).length (rcells E (rs.take (find rs (max (r.lo - 1) 0)) ++ js ++ rs.drop (find rs (min r.hi (size - 1)) + 1))))) :
    Calls Tryz.prog 23 #[.pointer (some ⟨bm, 0, none⟩), .agg #[.int .i64 r.lo, .int .i64 r.hi, .string r.v]] w fun e w' => e = .returned (.tuple #[]) ∧ SetTo w B bm v size (lay size rs r) w' := by
  obtain ⟨g, cap, rfl, hg1, hg2, hcap, hrm⟩ := h.rm (by omega)
  obtain ⟨A, x, A', e1, l1, x1, x2, x3, x4⟩ := find_split h.tiles (i := max (r.lo - 1) 0) (by omega) (by omega)
  obtain ⟨B', y, B2, e2, l2, y1, y2, y3, y4⟩ := find_split h.tiles (i := min r.hi (size - 1)) (by omega) (by omega)
  obtain ⟨p1, p2, _⟩ := split_get e1 l1 r
  obtain ⟨_, q2, q3⟩ := split_get e2 l2 r
  have hx := (split_some e1 l1).1
  have hy := (split_some e2 l2).1
  have hL : lay size rs r = rs.take (find rs (max (r.lo - 1) 0)) ++ joined [⟨x.lo, r.lo, x.v⟩, r, ⟨r.hi, y.hi, y.v⟩] ++ rs.drop (find rs (min r.hi (size - 1)) + 1) := by
    unfold lay; rw [p2, q2]
  have hj := joined3 x.lo r.lo r.hi y.hi x.v r.v y.v (by omega) h1 (by omega)
  have hpos : 0 < (joined [⟨x.lo, r.lo, x.v⟩, r, ⟨r.hi, y.hi, y.v⟩]).length := by
    cases hJ : joined [⟨x.lo, r.lo, x.v⟩, r, ⟨r.hi, y.hi, y.v⟩] with
    | nil =>
      have ht : Tiles x.lo y.hi (joined [⟨x.lo, r.lo, x.v⟩, r, ⟨r.hi, y.hi, y.v⟩]) := hj.1
      rw [hJ] at ht; simp only [Tiles] at ht; omega
    | cons a b => simp
  have hspec := lay_spec h.tiles h.alt h0 h1 h2
  refine (lay_walk r h hrm h.le h0 h1 h2 x y rfl rfl rfl rfl rfl hx hy hpos (joined3_len _ _ _) (HR g cap _ _ rfl rfl hpos (joined3_len _ _ _))).mono ?_
  rintro e w' ⟨rfl, v', hb, hr, hk⟩
  rw [← hL] at hr
  exact ⟨rfl, v', ⟨hb, hr, h.base, hspec.1, hspec.2.1, h.le⟩, hk⟩

/-- where the last run is among those that are replaced -/
theorem lay_end {w : World} {B bm : Nat} {v : Value} {size : Int} {rs : List (Rn ByteArray)} (h : MO w B bm v size rs) (r : Rn ByteArray) (h0 : 0 ≤ r.lo) (h1 : r.lo < r.hi) (h2 : r.hi ≤ size) (hlast : find rs (min r.hi (size - 1)) + 1 = rs.length) :
    Calls Tryz.prog 23 #[.pointer (some ⟨bm, 0, none⟩), .agg #[.int .i64 r.lo, .int .i64 r.hi, .string r.v]] w fun e w' => e = .returned (.tuple #[]) ∧ SetTo w B bm v size (lay size rs r) w' := by
  refine lay_by h r h0 h1 h2 ?_
  intro g cap m js hv hm hm0 hm3 W gv c hrow hB hne hj
  obtain ⟨A, x, A', e1, l1, x1, x2, x3, x4⟩ := find_split h.tiles (i := max (r.lo - 1) 0) (by omega) (by omega)
  have hfi := (split_some e1 l1).2
  have hz : (((find rs (min r.hi (size - 1)) : Nat) : Int) + 1) = ((rs.length : Nat) : Int) := by omega
  rw [hz, hlast, List.drop_length, List.append_nil]
  have hl : (rcells E js).length = m * 3 := by rw [rcells_length, hm]
  have := replace_end W B g rs.length cap (find rs (max (r.lo - 1) 0)) m gv c (rcells E rs) (rcells E js) hrow hfi hm0 h.len (by omega) hl (fun j u hu => by
    have := hj.cells (g := gv) rfl j u hu
    rwa [WideShapes.add_plain, Nat.zero_add] at this) (rcells_one js) hB
  refine this.mono ?_
  rintro e w' ⟨ao, cap', rfl, ho, hg, hf⟩
  have hlen : (rs.take (find rs (max (r.lo - 1) 0)) ++ js).length = find rs (max (r.lo - 1) 0) + m := by rw [List.length_append, List.length_take, hm]; omega
  rw [rcells_take, ← rcells_append] at ho
  rw [hlen]
  exact ⟨ao, cap', rfl, ho, hg, hf⟩

theorem set_nil (w : World) (lo hi x : Value) : Calls Tryz.prog 10 #[.pointer none, lo, hi, x] w fun e w' => e = .returned (.int .i64 1) ∧ w' = w := by
  go_enter Tryz.func10, Tryz.ntmps10
  go_wp2_with (go_at_call 22; refine (usable_nil _).mono ?_; rintro e w' ⟨rfl, rfl⟩)
  go_ret
  exact ⟨rfl, rfl⟩
theorem set_zero (w : World) (p : Nat) (lo hi x : Value) (h : w.cell? ⟨p, 0, none⟩ = some (.bool false)) : Calls Tryz.prog 10 #[.pointer (some ⟨p, 0, none⟩), lo, hi, x] w fun e w' => e = .returned (.int .i64 1) ∧ w' = w := by
  go_enter Tryz.func10, Tryz.ntmps10
  go_wp2_with (go_at_call 22; refine (usable_at p false _ h).mono ?_; rintro e w' ⟨rfl, rfl⟩)
  go_ret
  exact ⟨rfl, rfl⟩
set_option maxHeartbeats 1000000 in
theorem set_bad {w : World} {B bm : Nat} {v : Value} {size : Int} {rs : List (Rn ByteArray)} (h : MO w B bm v size rs) (lo hi : Int) (x : Value) (hb : lo < 0 ∨ hi < lo ∨ size < hi) :
    Calls Tryz.prog 10 #[.pointer (some ⟨bm, 0, none⟩), .int .i64 lo, .int .i64 hi, x] w fun e w' => e = .returned (.int .i64 21) ∧ w' = w := by
  have c0 : w.cell? ⟨bm, 0, none⟩ = some (.bool true) := h.c 0
  have c1 : w.cell? ⟨bm, 1, none⟩ = some (.int .i64 size) := h.c 1
  clear h
  go_enter Tryz.func10, Tryz.ntmps10
  by_cases k1 : lo < 0
  · go_wp2_with (go_at_call 22; refine (usable_at bm true _ c0).mono ?_; rintro e w' ⟨rfl, rfl⟩)
    go_ret
    exact ⟨rfl, rfl⟩
  · by_cases k2 : hi < lo
    · go_wp2_with (go_at_call 22; refine (usable_at bm true _ c0).mono ?_; rintro e w' ⟨rfl, rfl⟩)
      go_ret
      exact ⟨rfl, rfl⟩
    · have k3 : size < hi := by omega
      go_wp2_with (go_at_call 22; refine (usable_at bm true _ c0).mono ?_; rintro e w' ⟨rfl, rfl⟩)
      go_ret
      exact ⟨rfl, rfl⟩
set_option maxHeartbeats 1000000 in
theorem set_none {w : World} {B bm : Nat} {v : Value} {size : Int} {rs : List (Rn ByteArray)} (h : MO w B bm v size rs) (lo : Int) (x : Value) (h0 : 0 ≤ lo) (h2 : lo ≤ size) :
    Calls Tryz.prog 10 #[.pointer (some ⟨bm, 0, none⟩), .int .i64 lo, .int .i64 lo, x] w fun e w' => e = .returned (.int .i64 0) ∧ w' = w := by
  have c0 : w.cell? ⟨bm, 0, none⟩ = some (.bool true) := h.c 0
  have c1 : w.cell? ⟨bm, 1, none⟩ = some (.int .i64 size) := h.c 1
  clear h
  have k1 : ¬ lo < 0 := by omega
  have k2 : ¬ lo < lo := by omega
  have k3 : ¬ size < lo := by omega
  go_enter Tryz.func10, Tryz.ntmps10
  go_wp2_with (go_at_call 22; refine (usable_at bm true _ c0).mono ?_; rintro e w' ⟨rfl, rfl⟩)
  go_ret
  exact ⟨rfl, rfl⟩
set_option maxHeartbeats 1000000 in
theorem set_by {w : World} {B bm : Nat} {v : Value} {size : Int} {rs rs' : List (Rn ByteArray)} (h : MO w B bm v size rs) (lo hi : Int) (x : ByteArray) (h0 : 0 ≤ lo) (h1 : lo < hi) (h2 : hi ≤ size)
    (HL : Calls Tryz.prog 23 #[.pointer (some ⟨bm, 0, none⟩), .agg #[.int .i64 lo, .int .i64 hi, .string x]] w fun e w' => e = .returned (.tuple #[]) ∧ SetTo w B bm v size rs' w') :
    Calls Tryz.prog 10 #[.pointer (some ⟨bm, 0, none⟩), .int .i64 lo, .int .i64 hi, .string x] w fun e w' => e = .returned (.int .i64 0) ∧ SetTo w B bm v size rs' w' := by
  have c0 : w.cell? ⟨bm, 0, none⟩ = some (.bool true) := h.c 0
  have c1 : w.cell? ⟨bm, 1, none⟩ = some (.int .i64 size) := h.c 1
  clear h
  have k1 : ¬ lo < 0 := by omega
  have k2 : ¬ hi < lo := by omega
  have k3 : ¬ size < hi := by omega
  go_enter Tryz.func10, Tryz.ntmps10
  go_wp2_with (first | (go_at_call 22; refine (usable_at bm true _ c0).mono ?_; rintro e w' ⟨rfl, rfl⟩) | (go_at_call 23; refine HL.mono ?_; rintro e w' ⟨rfl, hs⟩))
  go_ret
  exact ⟨rfl, hs⟩
end Go.Proofs.YtncajaihojhkkaaGreat.S
