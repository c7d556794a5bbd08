import Derived.Test.YtlacligofhinmaaGreatV29
import Derived.Deep.AppendLies
namespace Go.Proofs.YtlacligofhinmaaGreat.C
open Go.RowKit Go.Maps Go.Shelf Go.Proofs.YtlacligofhinmaaGreat
attribute [local go_sem] Oper.semAt_some
set_option linter.unusedVariables false
set_option linter.unusedSimpArgs false
set_option maxRecDepth 100000

theorem infoRl : (Tryz.prog.info? TRl).map (fun i => (i.zero, i.size, i.bytes)) = some (some (.agg #[.int .i64 0, .slice none 0 0, .bool false]), 3, 40) := by kernel_rfl
/-- a new row of one line -/
theorem run_onex (w : World) (s : Int) (v : Value) (d : Bool) (hv : v.cells = #[v]) : (Instr.buildSlice TRls 1 #[(0, .agg #[.int .i64 s, v, .bool d])]).run Tryz.prog w = .ok (.slice (some ⟨w.heap.size, 0, none⟩) 1 1) (w.alloc (.cells #[.int .i64 s, v, .bool d] TRl)) := by
  obtain ⟨i0, hi, hz0, hz1, hz2⟩ := info_parts infoRl
  refine run_buildSlice w TRls TRl 1 _ _ i0 _ Tryz.underlying90 hi hz0 (by rw [hz1]; decide) (by rw [hz1]; decide) ?_
  rw [hz1]
  generalize hA : (#[.int .i64 s, v, .bool d] : Array Value) = A
  have hAs : A.size = 3 := by rw [← hA]; rfl
  obtain ⟨r, e, hs, g⟩ := K.fill_one (place := fun i => some (i * 3, 3)) (cells := (Array.range (1 * 3)).map ((Value.agg #[.int .i64 0, .slice none 0 0, .bool false]).cells[· % (Value.agg #[.int .i64 0, .slice none 0 0, .bool false]).cells.size]!)) (i := 0) (off := 0) (v := .agg A) (rest := []) (by simp [Value.cells, hAs]) (by simp [Value.cells, hAs])
  show Instr.fill _ _ [(0, Value.agg A)] = _
  rw [e]
  show some r = _
  congr 1
  apply Array.ext_getElem?
  intro j
  rw [g j]
  simp only [Value.cells, hAs]
  by_cases hk : 0 ≤ j ∧ j < 0 + 3
  · rw [if_pos hk]; rfl
  · rw [if_neg hk, Array.getElem?_eq_none (by simp; omega), Array.getElem?_eq_none (by rw [hAs]; omega)]
/-- a list without the one at a place, as far as it has been gone through -/
theorem erase_succ {X : List Xl} {k i : Nat} {x : Xl} (hx : X[k]? = some x) : (X.take (k + 1)).eraseIdx i = if k = i then (X.take k).eraseIdx i else (X.take k).eraseIdx i ++ [x] := by
  have hk := (List.getElem?_eq_some_iff.1 hx).1
  have hl : (X.take k).length = k := by rw [List.length_take]; omega
  rw [List.take_add_one, hx]
  show (X.take k ++ [x]).eraseIdx i = _
  by_cases e : k = i
  · subst e
    rw [if_pos rfl, List.eraseIdx_append_of_length_le (by omega), hl, Nat.sub_self, List.eraseIdx_of_length_le (l := X.take k) (by omega)]
    simp
  · rw [if_neg e]
    by_cases h : i < k
    · rw [List.eraseIdx_append_of_lt_length (by omega)]
    · rw [List.eraseIdx_of_length_le (by simp; omega), List.eraseIdx_of_length_le (l := X.take k) (by omega)]
theorem split_at {α : Type} {L : List α} {i : Nat} {l : α} (hi : L[i]? = some l) : L = L.take i ++ l :: L.drop (i + 1) := by
  have h := (List.getElem?_eq_some_iff.1 hi)
  obtain ⟨h1, h2⟩ := h
  conv => lhs; rw [← List.take_append_drop i L]
  rw [List.drop_eq_getElem_cons h1, h2]
theorem dropL_at {L : List Ln} (hd : (secs L).Nodup) {i : Nat} {l : Ln} (hi : L[i]? = some l) : dropL L l.sec = L.eraseIdx i := by
  have hs := split_at hi
  rw [List.eraseIdx_eq_take_drop_succ]
  conv => lhs; rw [hs]
  exact dropL_split (by rw [← hs]; exact hd)
theorem cleanL_at {L : List Ln} (hd : (secs L).Nodup) {i : Nat} {l : Ln} (hi : L[i]? = some l) : cleanL L l.sec = L.take i ++ cleaned l :: L.drop (i + 1) := by
  have hs := split_at hi
  conv => lhs; rw [hs]
  exact cleanL_split (by rw [← hs]; exact hd)
theorem Sim.take {X : List Xl} {L : List Ln} (h : Sim X L) (i : Nat) : Sim (X.take i) (L.take i) := by
  unfold Sim at h ⊢; rw [List.map_take, List.map_take, h]
theorem Sim.drop {X : List Xl} {L : List Ln} (h : Sim X L) (i : Nat) : Sim (X.drop i) (L.drop i) := by
  unfold Sim at h ⊢; rw [List.map_drop, List.map_drop, h]
theorem Sim.app {X X' : List Xl} {L L' : List Ln} (h : Sim X L) (h' : Sim X' L') : Sim (X ++ X') (L ++ L') := by
  unfold Sim at h h' ⊢; rw [List.map_append, List.map_append, h, h']
theorem Sim.cons {X' : List Xl} {L' : List Ln} {x : Xl} {l : Ln} (e : x.k = l.k) (h' : Sim X' L') : Sim (x :: X') (l :: L') := by
  unfold Sim at h' ⊢; rw [List.map_cons, List.map_cons, h', e]
theorem Sim.erase {X : List Xl} {L : List Ln} (h : Sim X L) (i : Nat) : Sim (X.eraseIdx i) (L.eraseIdx i) := by
  rw [List.eraseIdx_eq_take_drop_succ, List.eraseIdx_eq_take_drop_succ]
  exact (h.take i).app (h.drop (i + 1))
theorem Sim.one {x : Xl} {l : Ln} (e : x.k = l.k) : Sim [x] [l] := Sim.cons e rfl
theorem dropL_nodup {L : List Ln} (hd : (secs L).Nodup) (s : Int) : (secs (dropL L s)).Nodup := (List.filter_sublist.map _).nodup hd
theorem dropL_push {L : List Ln} {s : Int} (hd : (secs L).Nodup) {l : Ln} (hs : (l.sec : Int) = s) : (secs (dropL L s ++ [l])).Nodup := by
  show (List.map _ (dropL L s ++ [l])).Nodup
  rw [List.map_append, List.nodup_append]
  refine ⟨dropL_nodup hd s, by simp, ?_⟩
  intro a ha b hb e
  simp at hb
  subst hb
  subst e
  obtain ⟨x, hx, e⟩ := List.mem_map.1 ha
  have := (List.mem_filter.1 hx).2
  simp [e, hs] at this
section
variable {w w' : World} {A : Qa} {S S' : K.Dk} {C C' : Ch}
theorem RQ.xone (h : RQ w A S C) {x : Xl} (hx : x ∈ A.X) : x.v.oneCell' = true ∧ x.v.cells = #[x.v] ∧ ∃ g cap, x.v = .slice (some ⟨g, 0, none⟩) 512 cap := by
  obtain ⟨g, cap, cur, e, _⟩ := K.own_form (h.xd x hx) (by decide)
  rw [e]
  exact ⟨rfl, rfl, g, cap, rfl⟩
set_option maxHeartbeats 8000000 in
theorem rwithout_any (h : RQ w A S C) {i : Nat} (hi : i < A.X.length) :
    Calls Tryz.prog 101 #[.pointer (some ⟨A.q, 0, none⟩), .int .i64 i] w fun r w' => ∃ v, r = .returned v ∧ w'.ownsRow w.heap.size TRl 3 v (A.X.eraseIdx i).length (xcells (A.X.eraseIdx i)) ∧ Below w.heap.size w w' := by
  obtain ⟨i0, hi0, hz0, hz1, hz2⟩ := info_parts infoRl
  obtain ⟨ao, cap, hv⟩ := h.form
  have hx1 := h.x1024
  have HC3 : Hid (∀ W, Below w.heap.size w W → W.cell? ⟨A.q, 3, none⟩ = some (.slice ao A.X.length cap)) := fun W hb => by rw [← hv]; exact (h.later hb).c 3
  have HR : Hid (∀ W, Below w.heap.size w W → ∀ (k : Nat) x, A.X[k]? = some x → ∃ g, ao = some ⟨g, 0, none⟩ ∧ W.cell? ⟨g, k * 3, none⟩ = some (.int .i64 x.sec) ∧ W.cell? ⟨g, k * 3 + 1, none⟩ = some x.v ∧ W.cell? ⟨g, k * 3 + 2, none⟩ = some (.bool x.dirty)) := fun W hb k x hx => by
    obtain ⟨g, e, _, k0, k1, k2, _⟩ := (h.later hb).at_ hv hx
    exact ⟨g, e, k0, k1, k2⟩
  have HO : Hid (∀ x ∈ A.X, x.v.oneCell' = true ∧ x.v.cells = #[x.v]) := fun x hx => ⟨(h.xone hx).1, (h.xone hx).2.1⟩
  obtain ⟨X, hX⟩ : ∃ X, X = A.X := ⟨_, rfl⟩
  rw [← hX] at hi hx1 HC3 HR HO ⊢
  obtain ⟨n, hn⟩ : ∃ n, n = X.length := ⟨_, rfl⟩
  rw [← hn] at hi hx1 HC3
  have HN : Hid (n = X.length) := hn
  clear h hv hn hX
  go_enter Tryz.func101, Tryz.ntmps101
  go_wp2
  go_loopw [5, 6] (fun l j wr => ∃ k : Nat, k ≤ n ∧ j = .int .i64 k ∧ Hid (wr.ownsRow w.heap.size TRl 3 l ((X.take k).eraseIdx i).length (xcells ((X.take k).eraseIdx i))) ∧ Hid (Below w.heap.size w wr)) (fun _ j _ => n - (intOf j).toNat)
  case atStart => exact ⟨0, Nat.zero_le _, rfl, by show World.ownsRow _ _ _ _ _ _ _; simp [xcells]; exact World.ownsRow_nil _ _ _ _, Below.refl _ _⟩
  case round =>
    obtain ⟨k, hk, rfl, HL, HB⟩ := hrel
    have d3 := HC3.out wr HB.out
    by_cases hlt : k < n
    · have hkz : (k : Int) < (n : Int) := by omega
      obtain ⟨x, hx⟩ : ∃ x, X[k]? = some x := ⟨_, List.getElem?_eq_getElem (by have := HN.out; omega)⟩
      have HE := erase_succ (i := i) hx
      by_cases he : k = i
      · subst he
        rw [if_pos rfl] at HE
        have HL2 : Hid (wr.ownsRow w.heap.size TRl 3 u5 ((X.take (k + 1)).eraseIdx k).length (xcells ((X.take (k + 1)).eraseIdx k))) := by show World.ownsRow _ _ _ _ _ _ _; rw [HE]; exact HL.out
        clear HE hx
        have hne : ((k : Int) != (k : Int)) = false := by simp
        go_wp2
        go_roundw
        case rel => exact ⟨k + 1, by omega, by go_num, HL2, HB⟩
        case measure => simp [intOf]; omega
      · rw [if_neg he] at HE
        obtain ⟨g, rfl, k0, k1, k2⟩ := HR.out wr HB.out k x hx
        obtain ⟨o1, o2⟩ := HO.out x (List.mem_of_getElem? hx)
        have hone := run_onex wr x.sec x.v x.dirty o2
        have hne : ((k : Int) != (i : Int)) = true := by simp; omega
        have hne' : ¬ (k : Int) = (i : Int) := by omega
        have hyl : ((X.take k).eraseIdx i).length ≤ 1024 := Nat.le_trans (List.length_eraseIdx_le _ _) (by rw [List.length_take]; omega)
        have HEx : Hid ((X.take (k + 1)).eraseIdx i = (X.take k).eraseIdx i ++ [x]) := HE
        have HO1 : Hid (∀ u ∈ xcell x, u.oneCell' = true) := fun u hu => by
          simp [xcell] at hu
          rcases hu with rfl | rfl | rfl
          · rfl
          · exact o1
          · rfl
        have hsz := HB.out.size
        obtain ⟨Y, hY⟩ : ∃ Y, Y = (X.take k).eraseIdx i := ⟨_, rfl⟩
        rw [← hY] at HL hyl HEx
        have hn5 : ∃ ao5 c5, u5 = .slice ao5 Y.length c5 := by
          rcases HL.out.2 with ⟨e, h0⟩ | ⟨g, cap', cur, e, _⟩
          · exact ⟨none, 0, by rw [e, h0]⟩
          · exact ⟨_, _, e⟩
        obtain ⟨ao5, c5, rfl⟩ := hn5
        clear HE hx o1 o2 hY
        go_wp2_with (at_builtin; refine wpList_append_lies _ rfl _ _ TRls rfl w.heap.size TRl i0 _ 3 40 Tryz.underlying90 hi0 hz0 hz1 hz2 rfl (by decide) _ Y.length (xcells Y) rfl (HL.out.alloc _) ⟨wr.heap.size, 0, none⟩ 1 1 (xcell x) rfl rfl (World.news_of_block (heap_alloc_new wr _)) HO1.out (by decide) (by unfold maxLen; omega) (by omega) (by rw [World.size_alloc]; omega) _ rfl ?_; intro g9 cap9 w9 hown9 hgrow9 hat9 hlt9)
        have HL2 : Hid (w9.ownsRow w.heap.size TRl 3 (.slice (some ⟨g9, 0, none⟩) (Y.length + 1) cap9) ((X.take (k + 1)).eraseIdx i).length (xcells ((X.take (k + 1)).eraseIdx i))) := by
          show World.ownsRow _ _ _ _ _ _ _
          rw [HEx.out, xcells_append, List.length_append]
          simpa [xcells] using hown9
        have HB2 : Hid (Below w.heap.size w w9) := (HB.out.alloc HB.out.size _).grown hgrow9 (by rw [World.size_alloc]; omega) (fun q e => (HL.out.lt q e).1)
        clear hown9 hgrow9 hat9 hlt9
        go_wp2
        go_roundw
        case rel => exact ⟨k + 1, by omega, by go_num, HL2, HB2⟩
        case measure => simp [intOf]; omega
    · have hkz : ¬ (k : Int) < (n : Int) := by omega
      have HE : Hid (X.take k = X) := List.take_of_length_le (by have := HN.out; omega)
      have HL2 := HL.out
      rw [HE.out] at HL2
      have HL3 : Hid (wr.ownsRow w.heap.size TRl 3 u5 (X.eraseIdx i).length (xcells (X.eraseIdx i))) := HL2
      clear HL2 HE HL
      go_wp2
      go_ret
      exact ⟨_, rfl, HL3.out, HB.out⟩
end
end Go.Proofs.YtlacligofhinmaaGreat.C
