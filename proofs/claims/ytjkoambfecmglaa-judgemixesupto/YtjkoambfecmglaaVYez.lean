import Derived.Test.YtjkoambfecmglaaVYdz
import Derived.Laws.IdiomCopy
import Derived.Lib.SliceRun
import Derived.Deep.AppendLies
import Derived.Maps.RangeWalk
import Derived.Maps.AppendAt
namespace Go.Proofs.Ytjkoambfecmglaa
open Go.RowKit
set_option linter.unusedVariables false
set_option linter.unusedSimpArgs false
set_option maxRecDepth 100000
theorem grown_setCell {W : World} {g j : Nat} (x : Value) : W.grownBy (W.setCell ⟨g, j, none⟩ x) (some g) := by
  have hb := Below.setCell (Below.refl g W) (p := ⟨g, j, none⟩) (Nat.le_refl _) x
  exact ⟨hb.os, hb.tape, hb.output, hb.size, fun k hk hne => Below.heap_setCell _ _ _ _ (fun e => hne (by rw [e]))⟩
theorem own_setCells {B e n g cap : Nat} : ∀ (vs : List Value) (o : Nat) {W : World} {xs : List Value}, W.ownsRow B e 1 (.slice (some ⟨g, 0, none⟩) n cap) n xs → o + vs.length ≤ n →
    (W.setCells g o vs).ownsRow B e 1 (.slice (some ⟨g, 0, none⟩) n cap) n (xs.take o ++ (vs ++ xs.drop (o + vs.length))) ∧ W.grownBy (W.setCells g o vs) (some g)
  | [], o, W, xs, h, _ => ⟨by simpa [World.setCells] using h, World.grownBy.refl _ _⟩
  | v :: vs, o, W, xs, h, ho => by
    simp only [List.length_cons] at ho
    have hl := h.1
    have h1 := own_set h v (j := o) (by omega)
    obtain ⟨h2, h3⟩ := own_setCells vs (o + 1) h1 (by omega)
    refine ⟨?_, (grown_setCell v).trans h3⟩
    have e1 : (xs.set o v).take (o + 1) = xs.take o ++ [v] := by
      rw [List.take_set, List.take_succ_eq_append_getElem (by omega), List.set_append_right _ _ (by simp; omega)]
      rw [List.length_take, Nat.min_eq_left (by omega), Nat.sub_self]
      rfl
    have e2 : (xs.set o v).drop (o + 1 + vs.length) = xs.drop (o + (v :: vs).length) := by
      rw [List.drop_set_of_lt (by omega)]
      simp only [List.length_cons]
      congr 1; omega
    rw [e1, e2, List.append_assoc] at h2
    simpa [World.setCells] using h2
theorem laidTo_map {bs ds : List Nat} {off m : Nat} (hm : ds.length = m) : (laidTo bs ds off m).map bv = (bs.map bv).take off ++ (ds.map bv ++ (bs.map bv).drop (off + (ds.map bv).length)) := by
  unfold laidTo
  simp only [List.map_append, List.map_take, List.map_drop, List.length_map, hm]
  rw [List.take_of_length_le (l := ds.map bv) (by simp; omega)]
theorem owns_in {w : World} {base n : Nat} {e : TypeId} {size : Nat} {v : Value} {xs : List Value} (h : w.ownsRow base e size v n xs) {g : Nat} (hg : v.ownBlock = some g) : base ≤ g ∧ g < w.heap.size := by
  rcases h.2 with ⟨hv, _⟩ | ⟨g', cap, cur, hv, hb, hc, hr⟩
  · rw [hv] at hg; cases hg
  · rw [hv] at hg
    cases hg
    exact ⟨hb, (Array.getElem?_eq_some_iff.1 hc).1⟩
theorem owns_far {w w' : World} {base n : Nat} {e : TypeId} {v : Value} {xs : List Value} {row : Option Nat} (h : w.ownsRow base e 1 v n xs) (hg : w.grownBy w' row) (hne : ∀ g, v.ownBlock = some g → some g ≠ row) : w'.ownsRow base e 1 v n xs :=
  owns_same h fun g e => hg.block g (owns_in h e).2 (hne g e)
set_option maxHeartbeats 8000000 in
/-- what is no write and no zero plays nothing -/
theorem play_other (na da : Option Addr) (n nc k dc off m : Nat) (kd fr t : Int) (sy : Bool) (w : World) (hk : kd ≠ 2) (hk3 : kd ≠ 3) : Calls Try.prog 49 #[.slice na n nc, .agg #[.int .i64 kd, .int .i64 fr, .int .i64 t, .int .i64 (off : Int), .int .i64 (m : Int), .slice da k dc, .bool sy]] w fun e w' => e = .returned (.tuple #[]) ∧ w.grownBy w' none := by
  have n1 : (kd == 2) = false := by rw [beq_eq_false_iff_ne]; exact hk
  have n2 : (kd == 3) = false := by rw [beq_eq_false_iff_ne]; exact hk3
  have HB : Hid (Below w.heap.size w (w.alloc (.cells #[.int .i64 kd, .int .i64 fr, .int .i64 t, .int .i64 (off : Int), .int .i64 (m : Int), .slice da k dc, .bool sy] 50))) := (Below.refl _ w).alloc (Nat.le_refl _) _
  have HC : Hid (∀ w' : World, (∀ j v, (#[.int .i64 kd, .int .i64 fr, .int .i64 t, .int .i64 (off : Int), .int .i64 (m : Int), .slice da k dc, .bool sy] : Array Value)[j]? = some v → w'.cell? ⟨w.heap.size, j, none⟩ = some v) → w'.cell? ⟨w.heap.size, 0, none⟩ = some (.int .i64 kd) ∧ w'.cell? ⟨w.heap.size, 1, none⟩ = some (.int .i64 fr) ∧ w'.cell? ⟨w.heap.size, 2, none⟩ = some (.int .i64 t) ∧ w'.cell? ⟨w.heap.size, 3, none⟩ = some (.int .i64 (off : Int)) ∧ w'.cell? ⟨w.heap.size, 4, none⟩ = some (.int .i64 (m : Int)) ∧ w'.cell? ⟨w.heap.size, 5, none⟩ = some (.slice da k dc) ∧ w'.cell? ⟨w.heap.size, 6, none⟩ = some (.bool sy)) := fun w' hj =>
    ⟨hj 0 _ rfl, hj 1 _ rfl, hj 2 _ rfl, hj 3 _ rfl, hj 4 _ rfl, hj 5 _ rfl, hj 6 _ rfl⟩
  have HX : Hid (∀ j v, (#[.int .i64 kd, .int .i64 fr, .int .i64 t, .int .i64 (off : Int), .int .i64 (m : Int), .slice da k dc, .bool sy] : Array Value)[j]? = some v → (w.alloc (.cells #[.int .i64 kd, .int .i64 fr, .int .i64 t, .int .i64 (off : Int), .int .i64 (m : Int), .slice da k dc, .bool sy] 50)).cell? ⟨w.heap.size, j, none⟩ = some v) := fun j v hv => by
    rw [blk_at (heap_new _ _) j]; exact hv
  obtain ⟨V, hV⟩ : ∃ V, V = w.alloc (.cells #[.int .i64 kd, .int .i64 fr, .int .i64 t, .int .i64 (off : Int), .int .i64 (m : Int), .slice da k dc, .bool sy] 50) := ⟨_, rfl⟩
  rw [← hV] at HB HX
  have HV : Hid (V = w.alloc (.cells #[.int .i64 kd, .int .i64 fr, .int .i64 t, .int .i64 (off : Int), .int .i64 (m : Int), .slice da k dc, .bool sy] 50)) := hV
  have HG : Hid (w.grownBy V none) := by show w.grownBy V none; rw [hV]; exact World.grownBy_alloc _ _ _
  obtain ⟨c0, -⟩ := HC.out V HX.out
  go_enter Try.func49, Try.ntmps49
  go_wp2_with fail
  rw [← hV]
  clear hV
  go_wp2
  go_end0
  exact ⟨rfl, HG.out⟩
set_option maxHeartbeats 8000000 in
/-- a write is played -/
theorem play_write (na da : Option Addr) (B n nc dc off m : Nat) (bs ds : List Nat) (fr t : Int) (sy : Bool) (w : World) (ho : w.ownsRow B 5 1 (.slice na n nc) n (bs.map bv)) (hn : bs.length = n) (hd : BRow w da dc ds) (hm : ds.length = m) (hin : off + m ≤ n) (hs : n ≤ 4096) :
    Calls Try.prog 49 #[.slice na n nc, .agg #[.int .i64 2, .int .i64 fr, .int .i64 t, .int .i64 (off : Int), .int .i64 (m : Int), .slice da m dc, .bool sy]] w fun e w' => e = .returned (.tuple #[]) ∧ w'.ownsRow B 5 1 (.slice na n nc) n ((laidTo bs ds off m).map bv) ∧ w.grownBy w' (Value.slice na n nc).ownBlock := by
  have HB : Hid (Below w.heap.size w (w.alloc (.cells #[.int .i64 2, .int .i64 fr, .int .i64 t, .int .i64 (off : Int), .int .i64 (m : Int), .slice da m dc, .bool sy] 50))) := (Below.refl _ w).alloc (Nat.le_refl _) _
  have HC : Hid (∀ w' : World, (∀ j v, (#[.int .i64 2, .int .i64 fr, .int .i64 t, .int .i64 (off : Int), .int .i64 (m : Int), .slice da m dc, .bool sy] : Array Value)[j]? = some v → w'.cell? ⟨w.heap.size, j, none⟩ = some v) → w'.cell? ⟨w.heap.size, 0, none⟩ = some (.int .i64 2) ∧ w'.cell? ⟨w.heap.size, 1, none⟩ = some (.int .i64 fr) ∧ w'.cell? ⟨w.heap.size, 2, none⟩ = some (.int .i64 t) ∧ w'.cell? ⟨w.heap.size, 3, none⟩ = some (.int .i64 (off : Int)) ∧ w'.cell? ⟨w.heap.size, 4, none⟩ = some (.int .i64 (m : Int)) ∧ w'.cell? ⟨w.heap.size, 5, none⟩ = some (.slice da m dc) ∧ w'.cell? ⟨w.heap.size, 6, none⟩ = some (.bool sy)) := fun w' hj =>
    ⟨hj 0 _ rfl, hj 1 _ rfl, hj 2 _ rfl, hj 3 _ rfl, hj 4 _ rfl, hj 5 _ rfl, hj 6 _ rfl⟩
  have HX : Hid (∀ j v, (#[.int .i64 2, .int .i64 fr, .int .i64 t, .int .i64 (off : Int), .int .i64 (m : Int), .slice da m dc, .bool sy] : Array Value)[j]? = some v → (w.alloc (.cells #[.int .i64 2, .int .i64 fr, .int .i64 t, .int .i64 (off : Int), .int .i64 (m : Int), .slice da m dc, .bool sy] 50)).cell? ⟨w.heap.size, j, none⟩ = some v) := fun j v hv => by
    rw [blk_at (heap_new _ _) j]; exact hv
  obtain ⟨V, hV⟩ : ∃ V, V = w.alloc (.cells #[.int .i64 2, .int .i64 fr, .int .i64 t, .int .i64 (off : Int), .int .i64 (m : Int), .slice da m dc, .bool sy] 50) := ⟨_, rfl⟩
  rw [← hV] at HB HX
  have HV : Hid (V = w.alloc (.cells #[.int .i64 2, .int .i64 fr, .int .i64 t, .int .i64 (off : Int), .int .i64 (m : Int), .slice da m dc, .bool sy] 50)) := hV
  have HG : Hid (w.grownBy V none) := by show w.grownBy V none; rw [hV]; exact World.grownBy_alloc _ _ _
  obtain ⟨c0, c1, c2, c3, c4, c5, c6⟩ := HC.out V HX.out
  have q1 : (0 : Int) ≤ (off : Int) := by omega
  have q2 : (off : Int) ≤ (n : Int) := by omega
  have hnc : n ≤ nc := by
    rcases ho.2 with ⟨h0, _⟩ | ⟨_, _, _, hv, _, _, h1, _⟩
    · simp at h0; omega
    · simp at hv; omega
  have q3 : (n : Int) ≤ (nc : Int) := by omega
  have HGd : Hid (∀ row, w.grownBy V.drew row) := fun row => ⟨(HG.out.but row).os, (HG.out.but row).tape, (HG.out.but row).output, (HG.out.but row).size, (HG.out.but row).block⟩
  obtain ⟨sa, hsa⟩ : ∃ sa, sa = (if nc = off then na else Option.map (fun x => x.add off) na) := ⟨_, rfl⟩
  have HSa : Hid (sa = (if nc = off then na else Option.map (fun x => x.add off) na)) := hsa
  have hoV : V.ownsRow B 5 1 (.slice na n nc) n (bs.map bv) := owns_far ho HG.out (by simp)
  obtain ⟨U, hrun, hU1, hU2, hU3⟩ : ∃ U, ((Builtin.copy_ #[59, 22] 3 #[.slice sa (n - off) (nc - off), .slice da m dc]).run Try.prog V.drew = .ok (goInt m) U) ∧ U.ownsRow B 5 1 (.slice na n nc) n ((laidTo bs ds off m).map bv) ∧ w.grownBy U (Value.slice na n nc).ownBlock ∧ V.drew.grownBy U (Value.slice na n nc).ownBlock := by
    by_cases h0 : m = 0
    · subst h0
      refine ⟨V.drew, ?_, ?_, HGd.out _, World.grownBy.refl _ _⟩
      · exact run_copy_none V.drew _ _ _ 5 sa da _ _ _ _ Try.underlying59 (by rfl) (by simp)
      · rw [laidTo_zero]; exact hoV
    · obtain ⟨g, rfl, hBg, hc, hf⟩ := own_some hoV (by omega)
      have hda : ds ≠ [] := by rintro rfl; simp at hm; omega
      obtain ⟨b, o, rfl, hcd⟩ := hd.at_ hda
      obtain ⟨h1, h2⟩ := own_setCells (ds.map bv) off (W := V.drew) hoV (by rw [List.length_map]; omega)
      refine ⟨V.drew.setCells g off (ds.map bv), ?_, ?_, (HGd.out _).trans h2, h2⟩
      · rw [if_neg (by omega)] at hsa
        subst hsa
        show (Builtin.copy_ _ _ #[.slice (some ((⟨g, 0, none⟩ : Addr).add off)) _ _, _]).run _ _ = _
        rw [add_plain, Nat.zero_add]
        have := run_copy_cells (P := Try.prog) V.drew 59 22 3 5 g off (n - off) (nc - off) ⟨b, o, none⟩ m dc (ds.map bv) Try.underlying59 (by rfl) (by rw [List.length_map, hm]; show m = min m (n - off); omega) (fun j v hj => by
          rw [add_plain]
          rw [List.getElem?_map] at hj
          cases hx : ds[j]? with
          | none => rw [hx] at hj; cases hj
          | some x =>
            rw [hx] at hj
            cases hj
            have hjl := (List.getElem?_eq_some_iff.1 hx).1
            have h3 := hcd j hjl
            rw [(List.getElem?_eq_some_iff.1 hx).2] at h3
            exact HG.out.cell (a := ⟨b, o + j, none⟩) h3 (by simp)) (fun j hj => by
          rw [List.length_map] at hj
          show (V.cell? _).isSome = true
          rw [hc (off + j) (by omega), List.getElem?_map, List.getElem?_eq_getElem (by omega)]; rfl) (fun j _ => hf _) (fun v hv => by
          obtain ⟨x, _, rfl⟩ := List.mem_map.1 hv; rfl)
        rw [List.length_map, hm] at this
        exact this
      · rw [laidTo_map hm]; exact h1
  have HU : Hid (U.ownsRow B 5 1 (.slice na n nc) n ((laidTo bs ds off m).map bv) ∧ w.grownBy U (Value.slice na n nc).ownBlock) := ⟨hU1, hU2⟩
  have HXU : Hid (∀ j v, (#[.int .i64 2, .int .i64 fr, .int .i64 t, .int .i64 (off : Int), .int .i64 (m : Int), .slice da m dc, .bool sy] : Array Value)[j]? = some v → U.cell? ⟨w.heap.size, j, none⟩ = some v) := fun j v hv => by
    have hlt : w.heap.size < V.heap.size := by rw [hV]; simp
    rw [World.cell?_of_block (hU3.block _ hlt (fun e => by have := (owns_in ho (g := w.heap.size) e.symm).2; omega))]
    exact HX.out j v hv
  clear ho hoV hd hU1 hU2 hU3 hsa
  go_enter Try.func49, Try.ntmps49
  go_wp2_with fail
  rw [← hV]
  clear hV
  go_wp2_with fail
  refine wp_region_held_drew (S := (fun w' => w'.cell? ⟨w.heap.size, 0, none⟩ = some (.int .i64 2) ∧ w'.cell? ⟨w.heap.size, 1, none⟩ = some (.int .i64 fr) ∧ w'.cell? ⟨w.heap.size, 2, none⟩ = some (.int .i64 t) ∧ w'.cell? ⟨w.heap.size, 3, none⟩ = some (.int .i64 (off : Int)) ∧ w'.cell? ⟨w.heap.size, 4, none⟩ = some (.int .i64 (m : Int)) ∧ w'.cell? ⟨w.heap.size, 5, none⟩ = some (.slice da m dc) ∧ w'.cell? ⟨w.heap.size, 6, none⟩ = some (.bool sy))) (by kernel_rfl) ?_ (fun hHeld => ?_)
  · exact HC.out _ HX.out
  refine wpAnyH_take (i := 0) (oi := { dst := some 8, op := Op.move (Operand.tmp 0), type := 59, pos := _, after := #[], guard := none }) (v := ?_) rfl (by kernel_rfl) (by kernel_rfl) (by kernel_rfl) (fun _ _ _ h => h) (Or.inl ⟨by rfl, ?_⟩) (by assumption) ?_
  rotate_left
  · (intro w hSw; (try dsimp only at hSw); go_simp) <;> with_reducible rfl
  try simp only [Act.put, List.setIfInBounds_toArray, List.set_cons_zero, List.set_cons_succ]
  refine wpAnyH_take (i := 1) (oi := { dst := some 9, op := Op.fieldAddr 50 (Operand.tmp 3) 3, type := 0, pos := _, after := #[], guard := none }) (v := ?_) rfl (by kernel_rfl) (by kernel_rfl) (by kernel_rfl) (fun _ _ _ h => h) (Or.inl ⟨by rfl, ?_⟩) (by assumption) ?_
  rotate_left
  · (intro w hSw; (try dsimp only at hSw); go_simp) <;> with_reducible rfl
  try simp only [Act.put, List.setIfInBounds_toArray, List.set_cons_zero, List.set_cons_succ]
  refine wpAnyH_take (i := 2) (oi := { dst := some 10, op := Op.load 3 (Operand.tmp 9), type := 3, pos := _, after := #[{ on := 1, ground := Ground.data }], guard := none }) (v := ?_) rfl (by kernel_rfl) (by kernel_rfl) (by kernel_rfl) (fun _ _ _ h => h) (Or.inl ⟨by rfl, ?_⟩) (by assumption) ?_
  rotate_left
  · (intro w hSw; (try dsimp only at hSw); go_simp) <;> with_reducible rfl
  try simp only [Act.put, List.setIfInBounds_toArray, List.set_cons_zero, List.set_cons_succ]
  refine wpAnyH_take (i := 3) (oi := { dst := some 11, op := Op.slice 59 (Operand.tmp 8) (some (Operand.tmp 10)) none none, type := 59, pos := _, after := #[{ on := 0, ground := Ground.data }, { on := 2, ground := Ground.data }], guard := none }) (v := .slice sa (n - off) (nc - off)) rfl (by kernel_rfl) (by kernel_rfl) (by kernel_rfl) (fun _ _ _ h => h) (Or.inl ⟨by rfl, ?_⟩) (by assumption) ?_
  · (intro w hSw; (try dsimp only at hSw); go_simp) <;> (exact HSa.out.symm)
  try simp only [Act.put, List.setIfInBounds_toArray, List.set_cons_zero, List.set_cons_succ]
  refine wpAnyH_take (i := 4) (oi := { dst := some 12, op := Op.fieldAddr 50 (Operand.tmp 3) 5, type := 0, pos := _, after := #[], guard := none }) (v := ?_) rfl (by kernel_rfl) (by kernel_rfl) (by kernel_rfl) (fun _ _ _ h => h) (Or.inl ⟨by rfl, ?_⟩) (by assumption) ?_
  rotate_left
  · (intro w hSw; (try dsimp only at hSw); go_simp) <;> with_reducible rfl
  try simp only [Act.put, List.setIfInBounds_toArray, List.set_cons_zero, List.set_cons_succ]
  refine wpAnyH_take (i := 5) (oi := { dst := some 13, op := Op.load 22 (Operand.tmp 12), type := 22, pos := _, after := #[{ on := 4, ground := Ground.data }], guard := none }) (v := ?_) rfl (by kernel_rfl) (by kernel_rfl) (by kernel_rfl) (fun _ _ _ h => h) (Or.inl ⟨by rfl, ?_⟩) (by assumption) ?_
  rotate_left
  · (intro w hSw; (try dsimp only at hSw); go_simp) <;> with_reducible rfl
  try simp only [Act.put, List.setIfInBounds_toArray, List.set_cons_zero, List.set_cons_succ]
  refine wpAnyH_ready (rs := [6]) (by kernel_rfl) (by simp) ?_
  refine AllReadyH.cons (o := { dst := some 14, op := Op.call { callee := Callee.builtin Builtin.copy, args := #[Operand.tmp 11, Operand.tmp 13], argTypes := #[59, 22] }, type := 3, pos := _, after := #[{ on := 3, ground := Ground.data }, { on := 5, ground := Ground.data }], guard := none }) rfl (fun K hK => ?_) AllReadyH.nil
  go_simp
  skip
  try go_simp
  refine hK.out _ _ ?_ (fun hHeld => ?_)
  · exact HC.out _ HXU.out
  clear hK K
  try simp only [Act.put, List.setIfInBounds_toArray, List.set_cons_zero, List.set_cons_succ]
  refine wpAnyH_done (by kernel_rfl) ?_ _
  go_wp2
  go_end0
  exact ⟨rfl, HU.out⟩
end Go.Proofs.Ytjkoambfecmglaa
