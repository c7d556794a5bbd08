import Derived.Test.YtjkoambfecmglaaVSqz
namespace Go.Proofs.Ytjkoambfecmglaa
open Go.RowKit Go.Maps
set_option linter.unusedVariables false
set_option linter.unusedSimpArgs false
set_option maxRecDepth 100000
theorem Try.info50 : (Try.prog.info? 50).map (fun i => (i.zero, i.size, i.bytes)) = some (some (.agg #[.int .i64 0, .int .i64 0, .int .i64 0, .int .i64 0, .int .i64 0, .slice none 0 0, .bool false]), 7, 72) := by kernel_rfl
theorem Try.under23 : Try.prog.underlying 23 = some (.slice 50) := by kernel_rfl
theorem copy_row {ao : Option Addr} {cap n : Nat} {l : List Nat} {w : World} (h : BRow w ao cap l) (hn : l.length = n) :
    Calls Try.prog 9 #[.slice ao n cap] w fun e w' => ∃ va vc, e = .returned (.slice va n vc) ∧ w'.ownsRow w.heap.size 5 1 (.slice va n vc) n (l.map bv) ∧ Below w.heap.size w w' := by
  subst hn
  cases ao with
  | none =>
    obtain ⟨e1, e2⟩ := h.nil rfl
    subst e1 e2
    refine (copy_none w).mono ?_
    rintro e w' ⟨rfl, rfl⟩
    exact ⟨none, 0, rfl, ⟨rfl, .inl ⟨rfl, rfl⟩⟩, Below.refl _ _⟩
  | some ad =>
    refine (copy_some ad cap l w h).mono ?_
    rintro e w' ⟨v, rfl, ho, hb⟩
    obtain ⟨va, vc, rfl, _⟩ := BRow.own ho h.lt h.len
    exact ⟨va, vc, rfl, ho, hb⟩
abbrev ocells (l : List Opv) : List Value := l.flatMap fun o => o.cells.toList
theorem ocells_at : ∀ (l : List Opv) (i j : Nat) (o : Opv), l[i]? = some o → j < 7 → (ocells l)[i * 7 + j]? = o.cells[j]?
  | [], i, j, o, h, _ => by simp at h
  | u :: l, 0, j, o, h, hj => by
    simp at h
    subst h
    rw [ocells, List.flatMap_cons, List.getElem?_append_left (by simp; omega)]
    simp
  | u :: l, i + 1, j, o, h, hj => by
    have ih := ocells_at l i j o (by simpa using h) hj
    rw [ocells, List.flatMap_cons, List.getElem?_append_right (by simp; omega)]
    rw [show (i + 1) * 7 + j - u.cells.toList.length = i * 7 + j by simp; omega]
    exact ih
theorem opsR_own {W : World} {B n : Nat} {v : Value} {l : List Opv} (h : W.ownsRow B 50 7 v n (ocells l)) (hn : l.length = n) : ∃ ao cap, v = .slice ao n cap ∧ OpsR W ao l := by
  rcases h.2 with ⟨rfl, h0⟩ | ⟨g, cap, cur, rfl, hb, hg, hc, _, hsz, ht⟩
  · exact ⟨none, 0, by rw [h0], ⟨fun hl => absurd (List.eq_nil_of_length_eq_zero (by omega)) hl⟩⟩
  · refine ⟨_, cap, rfl, ⟨fun _ => ⟨g, 0, rfl, fun i hi j x hx => ?_⟩⟩⟩
    have hj : j < 7 := by
      have := (Array.getElem?_eq_some_iff.1 hx).1
      simpa using this
    have h1 := ocells_at l i j l[i] (List.getElem?_eq_getElem hi) hj
    rw [hx, ← ht, List.getElem?_take, if_pos (by omega)] at h1
    unfold World.cell?; simp only [hg]; simpa using h1
theorem own_form7 {w : World} {base e n : Nat} {v : Value} {xs : List Value} (h : w.ownsRow base e 7 v n xs) : ∃ ao cap, v = .slice ao n cap := by
  rcases h.2 with ⟨rfl, h0⟩ | ⟨g, cap, cur, rfl, _⟩
  · exact ⟨none, 0, by rw [h0]⟩
  · exact ⟨_, _, rfl⟩
set_option maxHeartbeats 16000000 in
/-- a copy of all, with the data -/
theorem ops_any (oa : Option Addr) (m oc : Nat) (l : List Opv) (dss : List (List Nat)) (w : World) (h : OpsD w oa l dss) (hm : l.length = m) (hs : m ≤ 1048576) :
    Calls Try.prog 10 #[.slice oa m oc] w fun e w' => ∃ oa2 oc2 l2, e = .returned (.slice oa2 m oc2) ∧ Below w.heap.size w w' ∧ OpsD w' oa2 l2 dss ∧ l2.length = m ∧ ∀ (k : Nat) (p q : Opv), l[k]? = some p → l2[k]? = some q → Sib p q := by
  have HD : Hid (OpsD w oa l dss ∧ l.length = m ∧ m ≤ 1048576) := ⟨h, hm, hs⟩
  have hmx : m ≤ 1048576 := hs
  clear h hm hs
  go_enter Try.func10, Try.ntmps10
  go_wp2
  go_loopw [4, 3] (fun xv cv wr => ∃ (i : Nat) (l2 : List Opv), i ≤ m ∧ xv = .int .i64 (i : Int) ∧ Hid (Below w.heap.size w wr ∧ wr.ownsRow w.heap.size 50 7 cv i (ocells l2) ∧ l2.length = i ∧ (∀ (k : Nat) (p q : Opv), l[k]? = some p → l2[k]? = some q → Sib p q) ∧ ∀ (k : Nat) (q : Opv) (ds : List Nat), l2[k]? = some q → dss[k]? = some ds → wr.ownsRow w.heap.size 5 1 (.slice q.da q.n q.dc) q.n (ds.map bv))) (fun xv _ _ => m - (intOf xv).toNat)
  case atStart => exact ⟨0, [], Nat.zero_le _, rfl, Below.refl _ _, ⟨rfl, .inl ⟨rfl, rfl⟩⟩, rfl, fun k p q _ h => by simp at h, fun k q ds h => by simp at h⟩
  case round =>
    obtain ⟨i, l2, hi, rfl, HB⟩ := hrel
    obtain ⟨ca, cc, hcv⟩ := own_form7 HB.out.2.1
    subst hcv
    by_cases hlt : i < m
    · have n9 : decide ((i : Int) < (m : Int)) = true := decide_eq_true (by omega)
      have ii0 : (0 : Int) ≤ (i : Int) := by omega
      have ii9 : (i : Int) < (m : Int) := by omega
      have HIi : Hid (i < m) := hlt
      obtain ⟨o, ho⟩ : ∃ o, l[i]? = some o := ⟨_, List.getElem?_eq_getElem (by rw [HD.out.2.1]; exact hlt)⟩
      obtain ⟨ds, hds⟩ : ∃ ds, dss[i]? = some ds := ⟨_, List.getElem?_eq_getElem (by rw [HD.out.1.len, HD.out.2.1]; exact hlt)⟩
      obtain ⟨hr1, hr2⟩ := HD.out.1.row i o ds ho hds
      obtain ⟨b, off, e1, hc2⟩ := ops_at (HD.out.1.ops.later HB.out.1) ho
      subst e1
      have HOo : Hid (l[i]? = some o ∧ dss[i]? = some ds ∧ ds.length = o.n) := ⟨ho, hds, hr2⟩
      have HCp : Hid (∀ V, Below wr.heap.size wr V → Calls Try.prog 9 #[.slice o.da o.n o.dc] V fun e w' => ∃ va vc, e = .returned (.slice va o.n vc) ∧ w'.ownsRow V.heap.size 5 1 (.slice va o.n vc) o.n (ds.map bv) ∧ Below V.heap.size V w') := fun V hV => copy_row (hr1.later (HB.out.1.trans (hV.mono HB.out.1.size))) hr2
      have c0 : wr.cell? ⟨b, off + i * 7, none⟩ = some (.int .i64 o.k) := hc2 0 _ rfl
      have c1 : wr.cell? ⟨b, off + i * 7 + 1, none⟩ = some (.int .i64 o.fr) := hc2 1 _ rfl
      have c2 : wr.cell? ⟨b, off + i * 7 + 2, none⟩ = some (.int .i64 o.to_) := hc2 2 _ rfl
      have c3 : wr.cell? ⟨b, off + i * 7 + 3, none⟩ = some (.int .i64 o.off) := hc2 3 _ rfl
      have c4 : wr.cell? ⟨b, off + i * 7 + 4, none⟩ = some (.int .i64 o.len) := hc2 4 _ rfl
      have c5 : wr.cell? ⟨b, off + i * 7 + 5, none⟩ = some (.slice o.da o.n o.dc) := hc2 5 _ rfl
      have c6 : wr.cell? ⟨b, off + i * 7 + 6, none⟩ = some (.bool o.sy) := hc2 6 _ rfl
      have HAl : Hid (Below wr.heap.size wr (wr.alloc (.cells #[.int .i64 o.k, .int .i64 o.fr, .int .i64 o.to_, .int .i64 o.off, .int .i64 o.len, .slice o.da o.n o.dc, .bool o.sy] 50))) := (Below.refl _ wr).alloc (Nat.le_refl _) _
      have c5b : (wr.alloc (.cells #[.int .i64 o.k, .int .i64 o.fr, .int .i64 o.to_, .int .i64 o.off, .int .i64 o.len, .slice o.da o.n o.dc, .bool o.sy] 50)).cell? ⟨b, off + i * 7 + 5, none⟩ = some (.slice o.da o.n o.dc) := cell_later HAl.out c5
      clear hc2 ho hds hr1 hr2
      go_wp2_with fail
      refine (HCp.out _ HAl.out).mono ?_
      rintro e W2 ⟨va, vc, rfl, hrow, hb2⟩
      have hB2 : Below wr.heap.size wr W2 := HAl.out.trans (hb2.mono HAl.out.size)
      have hblk : W2.heap[wr.heap.size]? = some (.cells #[.int .i64 o.k, .int .i64 o.fr, .int .i64 o.to_, .int .i64 o.off, .int .i64 o.len, .slice o.da o.n o.dc, .bool o.sy] 50 (0, 0)) := (hb2.block _ (by rw [World.size_alloc]; exact Nat.lt_succ_self _)).trans (heap_new _ _)
      have HBk : Hid _ := hblk
      have HB2 : Hid (Below wr.heap.size wr W2 ∧ W2.ownsRow (wr.heap.size + 1) 5 1 (.slice va o.n vc) o.n (ds.map bv)) := ⟨hB2, by have h9 := hrow; rw [World.size_alloc] at h9; exact h9⟩
      have e0 : W2.cell? ⟨wr.heap.size, 0, none⟩ = some (.int .i64 o.k) := blk_at hblk 0
      have e1 : W2.cell? ⟨wr.heap.size, 1, none⟩ = some (.int .i64 o.fr) := blk_at hblk 1
      have e2 : W2.cell? ⟨wr.heap.size, 2, none⟩ = some (.int .i64 o.to_) := blk_at hblk 2
      have e3 : W2.cell? ⟨wr.heap.size, 3, none⟩ = some (.int .i64 o.off) := blk_at hblk 3
      have e4 : W2.cell? ⟨wr.heap.size, 4, none⟩ = some (.int .i64 o.len) := blk_at hblk 4
      have e5 : W2.cell? ⟨wr.heap.size, 5, none⟩ = some (.slice o.da o.n o.dc) := blk_at hblk 5
      have e6 : W2.cell? ⟨wr.heap.size, 6, none⟩ = some (.bool o.sy) := blk_at hblk 6
      have ef : W2.frozen? ⟨wr.heap.size, 5, none⟩ = false := blk_free hblk 5
      have HB3 : Hid (Below wr.heap.size wr (W2.setCell ⟨wr.heap.size, 5, none⟩ (.slice va o.n vc))) := hB2.setCell (p := ⟨wr.heap.size, 5, none⟩) (Nat.le_refl _) _
      have HO4 : Hid (((W2.setCell ⟨wr.heap.size, 5, none⟩ (.slice va o.n vc)).alloc (.cells #[.int .i64 o.k, .int .i64 o.fr, .int .i64 o.to_, .int .i64 o.off, .int .i64 o.len, .slice va o.n vc, .bool o.sy] 50)).ownsRow w.heap.size 50 7 (.slice ca i cc) i (ocells l2)) := by
        have hX : Below wr.heap.size wr ((W2.setCell ⟨wr.heap.size, 5, none⟩ (.slice va o.n vc)).alloc (.cells #[.int .i64 o.k, .int .i64 o.fr, .int .i64 o.to_, .int .i64 o.off, .int .i64 o.len, .slice va o.n vc, .bool o.sy] 50)) := HB3.out.alloc HB3.out.size _
        exact rows_same HB.out.2.1 fun g e => hX.block g (owns_in HB.out.2.1 e).2
      have HNw : Hid (∀ j u, [Value.int .i64 o.k, .int .i64 o.fr, .int .i64 o.to_, .int .i64 o.off, .int .i64 o.len, .slice va o.n vc, .bool o.sy][j]? = some u → ((W2.setCell ⟨wr.heap.size, 5, none⟩ (.slice va o.n vc)).alloc (.cells #[.int .i64 o.k, .int .i64 o.fr, .int .i64 o.to_, .int .i64 o.off, .int .i64 o.len, .slice va o.n vc, .bool o.sy] 50)).cell? ((⟨W2.heap.size, 0, none⟩ : Addr).add j) = some u) := fun j u hu => by
        have h1 := new_at (W2.setCell ⟨wr.heap.size, 5, none⟩ (.slice va o.n vc)) (.cells #[.int .i64 o.k, .int .i64 o.fr, .int .i64 o.to_, .int .i64 o.off, .int .i64 o.len, .slice va o.n vc, .bool o.sy] 50) W2.heap.size (by rw [World.size_setCell])
        rw [add_plain, Nat.zero_add, blk_at h1 j, ← Array.getElem?_toList]
        exact hu
      have HBg : Hid (w.heap.size ≤ ((W2.setCell ⟨wr.heap.size, 5, none⟩ (.slice va o.n vc)).alloc (.cells #[.int .i64 o.k, .int .i64 o.fr, .int .i64 o.to_, .int .i64 o.off, .int .i64 o.len, .slice va o.n vc, .bool o.sy] 50)).heap.size) := by
        show _ ≤ _
        rw [World.size_alloc]
        exact Nat.le_succ_of_le (Nat.le_trans HB.out.1.size HB3.out.size)
      obtain ⟨i0, hi0, hz0, hz1, hz2⟩ := info_parts Try.info50
      clear hB2 hblk hrow hb2 c0 c1 c2 c3 c4 c5 c6 c5b
      go_wp2_with (at_builtin; refine wpList_append_own _ rfl _ _ 23 rfl w.heap.size 50 i0 _ 7 72 Try.under23 hi0 hz0 hz1 hz2 rfl (by decide) (.slice ca i cc) i (ocells l2) rfl HO4.out ⟨W2.heap.size, 0, none⟩ 1 1 [.int .i64 o.k, .int .i64 o.fr, .int .i64 o.to_, .int .i64 o.off, .int .i64 o.len, .slice va o.n vc, .bool o.sy] rfl rfl HNw.out (by simp [Value.oneCell']) (by have := HIi.out; have := HD.out.2.2; unfold maxLen; omega) (by have := HIi.out; have := HD.out.2.2; omega) HBg.out ?_)
      intro v3 W3 ho3 hg3 _
      obtain ⟨ca3, cc3, hv3⟩ := own_form7 ho3
      subst hv3
      have HR : Hid (Below w.heap.size w W3 ∧ W3.ownsRow w.heap.size 50 7 (.slice ca3 (i + 1) cc3) (i + 1) (ocells (l2 ++ [⟨o.k, o.fr, o.to_, o.off, o.len, va, o.n, vc, o.sy⟩])) ∧ (l2 ++ [(⟨o.k, o.fr, o.to_, o.off, o.len, va, o.n, vc, o.sy⟩ : Opv)]).length = i + 1 ∧ (∀ (k : Nat) (p q : Opv), l[k]? = some p → (l2 ++ [(⟨o.k, o.fr, o.to_, o.off, o.len, va, o.n, vc, o.sy⟩ : Opv)])[k]? = some q → Sib p q) ∧ ∀ (k : Nat) (q : Opv) (ds : List Nat), (l2 ++ [(⟨o.k, o.fr, o.to_, o.off, o.len, va, o.n, vc, o.sy⟩ : Opv)])[k]? = some q → dss[k]? = some ds → W3.ownsRow w.heap.size 5 1 (.slice q.da q.n q.dc) q.n (ds.map bv)) := by
        have hX : Below wr.heap.size wr ((W2.setCell ⟨wr.heap.size, 5, none⟩ (.slice va o.n vc)).alloc (.cells #[.int .i64 o.k, .int .i64 o.fr, .int .i64 o.to_, .int .i64 o.off, .int .i64 o.len, .slice va o.n vc, .bool o.sy] 50)) := HB3.out.alloc HB3.out.size _
        have hwr := HB.out.1.size
        have hl2 := HB.out.2.2.1
        refine ⟨(HB.out.1.trans (hX.mono hwr)).grown hg3 (Nat.le_trans hwr hX.size) (fun k e => (owns_in HB.out.2.1 e).1), ?_, by rw [List.length_append, hl2]; rfl, fun k p q hp hq => ?_, fun k q ds2 hq hd => ?_⟩
        · have h9 : ocells (l2 ++ [(⟨o.k, o.fr, o.to_, o.off, o.len, va, o.n, vc, o.sy⟩ : Opv)]) = ocells l2 ++ [.int .i64 o.k, .int .i64 o.fr, .int .i64 o.to_, .int .i64 o.off, .int .i64 o.len, .slice va o.n vc, .bool o.sy] := by simp [ocells]
          rw [h9]; exact ho3
        · rcases Nat.lt_or_ge k l2.length with h1 | h1
          · rw [List.getElem?_append_left h1] at hq; exact HB.out.2.2.2.1 k p q hp hq
          · rw [List.getElem?_append_right h1] at hq
            have hk0 := (List.getElem?_eq_some_iff.1 hq).1
            simp at hk0
            have hki : k = i := by omega
            subst hki
            rw [HOo.out.1] at hp
            rw [hk0] at hq
            simp at hq
            cases hp
            subst hq
            rfl
        · rcases Nat.lt_or_ge k l2.length with h1 | h1
          · rw [List.getElem?_append_left h1] at hq
            have h2 := HB.out.2.2.2.2 k q ds2 hq hd
            refine owns_same h2 fun g e => ?_
            have h3 := (owns_in h2 e).2
            obtain ⟨cu, h4⟩ := owns_type h2 g e
            refine (hg3.block g (Nat.lt_of_lt_of_le h3 hX.size) (fun e2 => ?_)).trans (hX.block g h3)
            rcases HB.out.2.1.2 with ⟨h5, _⟩ | ⟨g', cap, cur, h5, _, h6, _⟩
            · rw [h5] at e2; cases e2
            · rw [h5] at e2; cases e2; rw [h4] at h6; cases h6
          · rw [List.getElem?_append_right h1] at hq
            have hk0 := (List.getElem?_eq_some_iff.1 hq).1
            simp at hk0
            have hki : k = i := by omega
            subst hki
            rw [HOo.out.2.1] at hd
            cases hd
            rw [hk0] at hq
            simp at hq
            subst hq
            have h2 := HB2.out.2
            refine owns_mono (owns_same h2 fun g e => ?_) (Nat.le_succ_of_le hwr)
            have h3 := owns_in h2 e
            have h4 : g < ((W2.setCell ⟨wr.heap.size, 5, none⟩ (.slice va o.n vc)).alloc (.cells #[.int .i64 o.k, .int .i64 o.fr, .int .i64 o.to_, .int .i64 o.off, .int .i64 o.len, .slice va o.n vc, .bool o.sy] 50)).heap.size := by rw [World.size_alloc, World.size_setCell]; omega
            refine (hg3.block g h4 (fun e2 => ?_)).trans ?_
            · have h5 := (owns_in HB.out.2.1 e2.symm).2
              omega
            · refine ((World.grownBy_alloc (W2.setCell ⟨wr.heap.size, 5, none⟩ (.slice va o.n vc)) (.cells #[.int .i64 o.k, .int .i64 o.fr, .int .i64 o.to_, .int .i64 o.off, .int .i64 o.len, .slice va o.n vc, .bool o.sy] 50) none).block g (by rw [World.size_setCell]; exact h3.2) (by simp)).trans ?_
              exact Below.heap_setCell _ _ _ _ (by show g ≠ wr.heap.size; omega)
      clear ho3 hg3 e0 e1 e2 e3 e4 e5 e6 ef
      go_wp2
      go_roundw
      case rel => exact ⟨i + 1, _, HIi.out, by go_num, HR.out⟩
      case measure => simp [intOf]; omega
    · have n9 : decide ((i : Int) < (m : Int)) = false := decide_eq_false (by omega)
      have HIe : Hid (i = m) := Nat.le_antisymm hi (Nat.le_of_not_lt hlt)
      have HFi : Hid (∃ oa2 oc2, Value.slice ca i cc = .slice oa2 m oc2 ∧ OpsR wr oa2 l2) := by
        obtain ⟨ao, cap, h1, h2⟩ := opsR_own HB.out.2.1 HB.out.2.2.1
        have h3 := HIe.out
        exact ⟨ao, cap, by rw [h1, h3], h2⟩
      go_wp2_with fail
      go_ret
      obtain ⟨ao, cap, h1, h2⟩ := HFi.out
      refine ⟨ao, cap, l2, ?_, HB.out.1, ⟨h2, ?_, fun k q ds hq hd => ?_⟩, ?_, HB.out.2.2.2.1⟩
      · exact congrArg Ending.returned h1
      · rw [HB.out.2.2.1, HIe.out, ← HD.out.2.1, HD.out.1.len]
      · have h3 := HB.out.2.2.2.2 k q ds hq hd
        have hkm : k < l.length := by
          have := (List.getElem?_eq_some_iff.1 hq).1
          rw [HB.out.2.2.1, HIe.out, ← HD.out.2.1] at this; exact this
        have h4 := (HD.out.1.row k l[k] ds (List.getElem?_eq_getElem hkm) hd).1
        have h5 : ds.length = q.n := by have := h3.1; rw [List.length_map] at this; omega
        refine ⟨?_, h5⟩
        rw [← h5] at h3
        obtain ⟨a2, c2, e2, h6⟩ := BRow.own h3 h4.lt h4.len
        cases e2
        exact h6
      · rw [HB.out.2.2.1, HIe.out]
end Go.Proofs.Ytjkoambfecmglaa

namespace Go.Proofs.Ytjkoambfecmglaa
open Go.RowKit
set_option linter.unusedVariables false
set_option linter.unusedSimpArgs false
set_option maxRecDepth 100000
set_option maxHeartbeats 16000000 in
theorem rFollow_new (fa oa za : Option Addr) (n fc m oc d zc : Nat) (first : List Nat) (l : List Opv) (dss : List (List Nat)) (ord : List Int) (w : World) (hb : BRow w fa fc first) (hn : first.length = n) (h : OpsD w oa l dss) (hm : l.length = m) (hs : m ≤ 1099511627776) (hz : ZRow w za ord) (hd : ord.length = d) (hds : d ≤ 1099511627776) (hzc : d ≤ zc) :
    Calls Try.prog 12 #[.slice fa n fc, .slice oa m oc, .slice za d zc] w fun e w' => ∃ v at_ en, e = .returned (.tuple #[v, .int .i64 at_, .int .i64 en]) ∧ FolOut l dss ord first n w' v at_ en ∧ NewB w.heap.size w' v ∧ Below w.heap.size w w' := by
  have HW0 : Hid _ := rWrong_any fa oa n fc m oc l w h.ops hm hs
  have HD : Hid (BRow w fa fc first ∧ first.length = n ∧ OpsD w oa l dss ∧ l.length = m ∧ ZRow w za ord ∧ ord.length = d) := ⟨hb, hn, h, hm, hz, hd⟩
  have HNx : Hid (∀ W (i : Nat) (q : Int), Below w.heap.size w W → i ≤ d → Calls Try.prog 29 #[.slice oa m oc, .slice za i zc, .int .i64 q] W fun e w' => ∃ r : Bool, e = .returned (.bool r) ∧ (r = true ↔ MayN l (ord.take i) q) ∧ Below W.heap.size W w') := fun W i q hb9 hi => rNext_all oa za m oc i zc l (ord.take i) q W (h.ops.later hb9) hm hs ((hz.take i).later hb9) (by rw [List.length_take]; omega) (by omega)
  have HWh : Hid (∀ W, Below w.heap.size w W → Calls Try.prog 31 #[.slice oa m oc, .slice za d zc] W fun e w' => ∃ r : Bool, e = .returned (.bool r) ∧ (r = true ↔ Whl l ord m) ∧ Below W.heap.size W w') := fun W hb9 => rWhole_any oa za m oc d zc l ord W (h.ops.later hb9) hm hs (hz.later hb9) hd hds
  have HCp : Hid (∀ W, Below w.heap.size w W → Calls Try.prog 9 #[.slice fa n fc] W fun e w' => ∃ co cc, e = .returned (.slice co n cc) ∧ (BRow w' co cc first ∧ w'.ownsRow W.heap.size 5 1 (.slice co n cc) n (first.map bv)) ∧ W.heap.size ≤ w'.heap.size ∧ Below W.heap.size W w') := fun W hb9 => (copy_any fa fc n first W (hb.later hb9) hn).mono (by rintro e w' ⟨co, cc, e1, h1, h2, h3⟩; exact ⟨co, cc, e1, ⟨h1, h2⟩, h3.size, h3⟩)
  clear hb hn h hm hz hd
  go_enter Try.func12, Try.ntmps12
  go_wp2_with fail
  refine Calls.mono HW0.out ?_
  rintro e W0 ⟨rfl, hb0⟩
  have HB0 : Hid (Below w.heap.size w W0) := hb0
  clear hb0 HW0
  by_cases hw : wrg n l = 0
  · have HWr : Hid (wrg n l = 0) := hw
    have hw' : ((wrg n l : Nat) : Int) = 0 := by rw [hw]; rfl
    rw [hw']
    have HC0 : Hid _ := HCp.out W0 HB0.out
    clear hw hw' HCp
    go_wp2_with fail
    refine Calls.mono HC0.out ?_
    rintro e W1 ⟨co, cc, rfl, hr1, -, hb1⟩
    have HS1 : Hid (Below w.heap.size w W1 ∧ BRow W1 co cc first ∧ W1.ownsRow W0.heap.size 5 1 (.slice co n cc) n (first.map bv)) := ⟨HB0.out.trans (hb1.mono HB0.out.size), hr1⟩
    clear hb1 hr1 HC0
    go_wp2
    go_loopw [10, 11] (fun bv9 iv wr => ∃ (i : Nat) (bs : List Nat) (co : Option Addr) (cc : Nat), i ≤ d ∧ bv9 = .slice co n cc ∧ iv = .int .i64 (i : Int) ∧ Hid (Below w.heap.size w wr ∧ (BRow wr co cc bs ∧ wr.ownsRow w.heap.size 5 1 (.slice co n cc) n (bs.map bv)) ∧ bs.length = n ∧ FolR l dss ord first i bs)) (fun _ iv _ => d - (intOf iv).toNat)
    case atStart => exact ⟨0, first, co, cc, Nat.zero_le _, rfl, rfl, HS1.out.1, ⟨HS1.out.2.1, owns_mono HS1.out.2.2 HB0.out.size⟩, HD.out.2.1, .nil⟩
    case round =>
      obtain ⟨i, bs, co, cc, hi, rfl, rfl, HB⟩ := hrel
      by_cases hlt : i < d
      · have n9 : decide ((i : Int) < (d : Int)) = true := by simp; omega
        have ii0 : (0 : Int) ≤ (i : Int) := by omega
        have ii9 : (i : Int) < (d : Int) := by omega
        have ii8 : (i : Int) ≤ (zc : Int) := by omega
        have ii7 : i ≤ zc := by omega
        have hil : i < ord.length := by rw [HD.out.2.2.2.2.2]; exact hlt
        obtain ⟨zb, zo, e0, hc⟩ := HD.out.2.2.2.2.1.at_ (by rintro rfl; simp at hil)
        subst e0
        obtain ⟨q, hq⟩ : ∃ q, ord[i] = q := ⟨_, rfl⟩
        have HQ : Hid (ord[i]? = some q) := by show _ = _; rw [List.getElem?_eq_getElem hil, hq]
        have HC : Hid (∀ V, Below w.heap.size w V → V.cell? ⟨zb, zo + i, none⟩ = some (.int .i64 q)) := fun V hV => by rw [← hq]; exact cell_later hV (hc i hil)
        have cq := HC.out wr HB.out.1
        have HBd : Hid (Below w.heap.size w wr.drew) := HB.out.1.trans (⟨rfl, rfl, rfl, Nat.le_refl _, fun _ _ => rfl⟩)
        have HN : Hid _ := HNx.out wr.drew i q HBd.out hi
        clear hc hq
        go_wp2
        go_region_held3 (fun w' => w'.cell? ⟨zb, zo + i, none⟩ = some (.int .i64 q)) (first | exact HC.out _ HB2.out | go_keep) (first | (go_at_call 29; refine Calls.mono HN.out ?_; rintro e W2 ⟨r, rfl, hr, hb2⟩; have HR : Hid (r = true ↔ MayN l (ord.take i) q) := hr; have HB2 : Hid (Below w.heap.size w W2) := HBd.out.trans (hb2.mono HBd.out.size); have HB2b : Hid (Below wr.heap.size wr W2) := (⟨rfl, rfl, rfl, Nat.le_refl _, fun _ _ => rfl⟩ : Below wr.heap.size wr wr.drew).trans hb2; clear hb2 hr))
        clear HN cq HNx
        cases r with
        | false =>
          have HF : Hid (∀ k p ds, ¬ Goes l dss ord bs i k p ds) := fun k p ds hg => by
            have := HR.out.2 (hg.mayN HQ.out).1
            cases this
          go_wp2
          go_ret3
          exact ⟨_, _, _, rfl, .inr (.inl ⟨HWr.out, i, bs, HB.out.2.2.2, hil, HF.out, rfl, rfl, rfl⟩), NewB.none _ _, HB2.out⟩
        | true =>
          obtain ⟨hnm, k, p, hqk, hk, hnx⟩ := HR.out.1 rfl
          subst hqk
          have hkl := (List.getElem?_eq_some_iff.1 hk).1
          have hkm : k < m := by rw [← HD.out.2.2.2.1]; exact hkl
          obtain ⟨ob, oo, e1, hc⟩ := HD.out.2.2.1.ops.at_ (by rintro rfl; simp at hkl)
          subst e1
          have hpk := (List.getElem?_eq_some_iff.1 hk).2
          have hc2 := hc k hkl
          rw [hpk] at hc2
          have c0 : W2.cell? ⟨ob, oo + k * 7, none⟩ = some (.int .i64 p.k) := cell_later HB2.out (hc2 0 _ rfl)
          have c1 : W2.cell? ⟨ob, oo + k * 7 + 1, none⟩ = some (.int .i64 p.fr) := cell_later HB2.out (hc2 1 _ rfl)
          have c2 : W2.cell? ⟨ob, oo + k * 7 + 2, none⟩ = some (.int .i64 p.to_) := cell_later HB2.out (hc2 2 _ rfl)
          have c3 : W2.cell? ⟨ob, oo + k * 7 + 3, none⟩ = some (.int .i64 p.off) := cell_later HB2.out (hc2 3 _ rfl)
          have c4 : W2.cell? ⟨ob, oo + k * 7 + 4, none⟩ = some (.int .i64 p.len) := cell_later HB2.out (hc2 4 _ rfl)
          have c5 : W2.cell? ⟨ob, oo + k * 7 + 5, none⟩ = some (.slice p.da p.n p.dc) := cell_later HB2.out (hc2 5 _ rfl)
          have c6 : W2.cell? ⟨ob, oo + k * 7 + 6, none⟩ = some (.bool p.sy) := cell_later HB2.out (hc2 6 _ rfl)
          have cq := HC.out W2 HB2.out
          have kk0 : (0 : Int) ≤ (k : Int) := by omega
          have kk9 : (k : Int) < (m : Int) := by omega
          obtain ⟨ds, hds9⟩ : ∃ ds, dss[k]? = some ds := ⟨_, List.getElem?_eq_getElem (by rw [HD.out.2.2.1.len]; exact hkl)⟩
          have HK : Hid (¬ (k : Int) ∈ ord.take i ∧ l[k]? = some p ∧ dss[k]? = some ds ∧ Nxt l (ord.take i) p l.length) := ⟨hnm, hk, hds9, hnx⟩
          have hrow := HD.out.2.2.1.row k p ds hk hds9
          have HPl : Hid _ := rPlay_any co cc n p bs ds W2 (HB.out.2.1.1.later ((HB2b).out)) HB.out.2.2.1 (hrow.1.later HB2.out) hrow.2 ((wrg_zero HWr.out).2 k p hk) (wrg_zero HWr.out).1
          clear hc hc2 hpk hnm hk hnx hrow hds9
          go_wp2_with fail
          refine Calls.mono HPl.out ?_
          rintro e W3 ⟨co3, cc3, b3, bs3, rfl, hb3, hbs3, hl3, hr3, ho3, hbl3⟩
          have HB3 : Hid (Below w.heap.size w W3 ∧ (BRow W3 co3 cc3 bs3 ∧ W3.ownsRow w.heap.size 5 1 (.slice co3 n cc3) n (bs3.map bv)) ∧ bs3.length = n ∧ b3 = p.fit bs ds ∧ (b3 = true → bs3 = p.eff bs ds)) := ⟨HB2.out.trans (hbl3.mono HB2.out.size), ⟨hr3, owns_mono ho3 HB2.out.size⟩, hl3, hb3, hbs3⟩
          clear hb3 hbs3 hl3 hr3 ho3 hbl3 HPl c0 c1 c2 c3 c4 c5 c6 cq
          cases b3 with
          | false =>
            have HF : Hid (∀ k p ds, ¬ Goes l dss ord bs i k p ds) := fun k' p' ds' hg => by
              have e1 := (hg.mayN HQ.out).2
              have e2 := Int.ofNat.inj e1
              subst e2
              obtain ⟨_, _, h3, h4, _, h6⟩ := hg
              rw [HK.out.2.1] at h3; rw [HK.out.2.2.1] at h4
              cases h3; cases h4
              rw [← HB3.out.2.2.2.1] at h6
              cases h6
            go_wp2
            go_ret3
            exact ⟨_, _, _, rfl, .inr (.inl ⟨HWr.out, i, bs, HB.out.2.2.2, hil, HF.out, rfl, rfl, rfl⟩), NewB.none _ _, HB3.out.1⟩
          | true =>
            have HG : Hid (FolR l dss ord first (i + 1) bs3) := by
              rw [show Hid (FolR l dss ord first (i + 1) bs3) = FolR l dss ord first (i + 1) bs3 from rfl, HB3.out.2.2.2.2 rfl]
              exact .step HB.out.2.2.2 ⟨HQ.out, HK.out.1, HK.out.2.1, HK.out.2.2.1, HK.out.2.2.2, HB3.out.2.2.2.1.symm⟩
            go_wp2
            go_roundw
            case rel => exact ⟨i + 1, bs3, co3, cc3, by omega, rfl, by go_num, HB3.out.1, HB3.out.2.1, HB3.out.2.2.1, HG.out⟩
            case measure => simp [intOf]; omega
      · have n9 : decide ((i : Int) < (d : Int)) = false := by simp; omega
        obtain rfl : i = d := by omega
        have HWl : Hid _ := HWh.out wr HB.out.1
        go_wp2_with fail
        refine Calls.mono HWl.out ?_
        rintro e W2 ⟨r, rfl, hr, hb2⟩
        have HB2 : Hid (Below w.heap.size w W2 ∧ (r = true ↔ Whl l ord m) ∧ BRow W2 co cc bs ∧ W2.ownsRow w.heap.size 5 1 (.slice co n cc) n (bs.map bv)) := ⟨HB.out.1.trans (hb2.mono HB.out.1.size), hr, HB.out.2.1.1.later hb2, owns_same HB.out.2.1.2 fun g e => hb2.block _ (owns_in HB.out.2.1.2 e).2⟩
        clear hb2 hr HWl
        have HFl : Hid (FolR l dss ord first ord.length bs) := by
          have := HB.out.2.2.2
          rwa [← HD.out.2.2.2.2.2] at this
        have HLn : Hid ((i : Int) = (ord.length : Int)) := by
          have := HD.out.2.2.2.2.2
          show _ = _
          omega
        cases r with
        | false =>
          have HNW : Hid (¬ Whl l ord l.length) := fun hw => by
            rw [HD.out.2.2.2.1] at hw
            cases HB2.out.2.1.2 hw
          go_wp2
          go_ret3
          exact ⟨_, _, _, rfl, .inr (.inr (.inl ⟨HWr.out, bs, HFl.out, HNW.out, rfl, HLn.out, rfl⟩)), NewB.none _ _, HB2.out.1⟩
        | true =>
          have HYW : Hid (Whl l ord l.length) := by
            show Whl _ _ _
            rw [HD.out.2.2.2.1]; exact HB2.out.2.1.1 rfl
          go_wp2
          go_ret3
          exact ⟨_, _, _, rfl, .inr (.inr (.inr ⟨HWr.out, bs, co, cc, HFl.out, HYW.out, rfl, HB2.out.2.2.1, HB.out.2.2.1, rfl, rfl⟩)), ⟨bs, by rw [HB.out.2.2.1]; exact HB2.out.2.2.2, HB.out.2.1.1.lt, by rw [HB.out.2.2.1]; exact (wrg_zero HWr.out).1⟩, HB2.out.1⟩
  · have hw0 : (((wrg n l : Nat) : Int) != 0) = true := by rw [bne_iff_ne]; omega
    have HWr : Hid (¬ wrg n l = 0) := hw
    obtain ⟨z, hz9⟩ : ∃ z : Int, ((wrg n l : Nat) : Int) = z := ⟨_, rfl⟩
    have HZ : Hid (((wrg n l : Nat) : Int) = z) := hz9
    rw [hz9] at hw0 ⊢
    clear hz9 hw
    go_wp2
    go_ret3
    exact ⟨_, _, _, rfl, .inl ⟨HWr.out, rfl, rfl, HZ.out.symm⟩, NewB.none _ _, HB0.out⟩
end Go.Proofs.Ytjkoambfecmglaa

namespace Go.Proofs.Ytjkoambfecmglaa
open Go.RowKit
set_option linter.unusedVariables false
set_option linter.unusedSimpArgs false
set_option maxRecDepth 100000
/-- the same operations, their data elsewhere -/
structure Sibs (l l2 : List Opv) : Prop where
  len : l2.length = l.length
  sib : ∀ (k : Nat) (p q : Opv), l[k]? = some p → l2[k]? = some q → Sib p q
theorem Sib.symm {p q : Opv} (h : Sib p q) : Sib q p := by
  obtain ⟨k, fr, t, off, len, da, n, dc, sy⟩ := p
  obtain ⟨k2, fr2, t2, off2, len2, da2, n2, dc2, sy2⟩ := q
  unfold Sib at h
  injection h with g1 g2 g3 g4 g5 g6 g7 g8 g9
  simp only at g1 g2 g3 g4 g5 g7 g9
  subst g1 g2 g3 g4 g5 g7 g9
  rfl
theorem Sib.ans {p q : Opv} (h : Sib p q) : q.ans = p.ans := by unfold Sib at h; rw [h]; rfl
theorem Sib.bef {p q a b : Opv} (h : Sib p q) (h2 : Sib a b) : q.bef b = p.bef a := by unfold Sib at h h2; rw [h, h2]; rfl
theorem Sib.may {p q : Opv} (h : Sib p q) (n : Nat) : q.may n = p.may n := by unfold Sib at h; rw [h]; rfl
theorem Sib.fit {p q : Opv} (h : Sib p q) (bs ds : List Nat) : q.fit bs ds = p.fit bs ds := by unfold Sib at h; rw [h]; rfl
theorem Sib.eff {p q : Opv} (h : Sib p q) (bs ds : List Nat) : q.eff bs ds = p.eff bs ds := by unfold Sib at h; rw [h]; rfl
theorem Sibs.symm {l l2 : List Opv} (h : Sibs l l2) : Sibs l2 l := ⟨h.len.symm, fun k p q hp hq => (h.sib k q p hq hp).symm⟩
theorem Sibs.get {l l2 : List Opv} (h : Sibs l l2) {k : Nat} {p : Opv} (hp : l[k]? = some p) : ∃ q, l2[k]? = some q ∧ Sib p q := by
  have hk := (List.getElem?_eq_some_iff.1 hp).1
  have hq : l2[k]? = some (l2[k]'(by rw [h.len]; exact hk)) := List.getElem?_eq_getElem (by rw [h.len]; exact hk)
  exact ⟨_, hq, h.sib k p _ hp hq⟩
theorem Sibs.back {l l2 : List Opv} (h : Sibs l l2) {k : Nat} {q : Opv} (hq : l2[k]? = some q) : ∃ p, l[k]? = some p ∧ Sib p q := by
  obtain ⟨p, h1, h2⟩ := h.symm.get hq
  exact ⟨p, h1, h2.symm⟩
theorem Sibs.wrg {l l2 : List Opv} (h : Sibs l l2) (n : Nat) : wrg n l2 = wrg n l := by
  have e : l2.all (fun o => o.may n) = l.all (fun o => o.may n) := by
    have e2 : l2.map (fun o => o.may n) = l.map (fun o => o.may n) := by
      apply List.ext_getElem?
      intro k
      rw [List.getElem?_map, List.getElem?_map]
      cases hp : l[k]? with
      | none =>
        have : l.length ≤ k := List.getElem?_eq_none_iff.1 hp
        rw [List.getElem?_eq_none (by rw [h.len]; exact this)]
      | some p =>
        obtain ⟨q, hq, hs⟩ := h.get hp
        rw [hq]
        simp [hs.may n]
    have e3 : ∀ l : List Opv, l.all (fun o => o.may n) = (l.map (fun o => o.may n)).all id := fun l => by rw [List.all_map]; rfl
    rw [e3, e3, e2]
  unfold Go.Proofs.Ytjkoambfecmglaa.wrg
  rw [e]
theorem Sibs.whl {l l2 : List Opv} (h : Sibs l l2) {dn : List Int} {m : Nat} (hw : Whl l dn m) : Whl l2 dn m := fun j q hj hq ha => by
  obtain ⟨p, hp, hs⟩ := h.back hq
  exact hw j p hj hp (by rw [← hs.ans]; exact ha)
theorem Sibs.goes {l l2 : List Opv} (h : Sibs l l2) {dss : List (List Nat)} {ord : List Int} {bs ds : List Nat} {i k : Nat} {p : Opv} (hg : Goes l dss ord bs i k p ds) : ∃ q, Sib p q ∧ Goes l2 dss ord bs i k q ds := by
  obtain ⟨h1, h2, h3, h4, h5, h6⟩ := hg
  obtain ⟨q, hq, hs⟩ := h.get h3
  refine ⟨q, hs, h1, h2, hq, h4, fun j o hj ho hb => ?_, by rw [hs.fit]; exact h6⟩
  obtain ⟨p2, hp2, hs2⟩ := h.back ho
  exact h5 j p2 (by rw [← h.len]; exact hj) hp2 (by rw [← hs2.bef hs]; exact hb)
theorem Sibs.folR {l l2 : List Opv} (h : Sibs l l2) {dss : List (List Nat)} {ord : List Int} {first : List Nat} : ∀ {i : Nat} {bs : List Nat}, FolR l dss ord first i bs → FolR l2 dss ord first i bs
  | 0, _, hf => by
    have e := FolR.zero hf
    subst e
    exact FolR.nil
  | i + 1, _, hf => by
    obtain ⟨k, bs, ds, p, hf2, hg, e⟩ := FolR.inv hf
    subst e
    obtain ⟨q, hs, hg2⟩ := h.goes hg
    have := FolR.step (Sibs.folR h hf2) hg2
    rw [hs.eff] at this
    exact this
theorem Sibs.folOut {l l2 : List Opv} (h : Sibs l l2) {dss : List (List Nat)} {ord : List Int} {first : List Nat} {n : Nat} {W : World} {v : Value} {at_ en : Int} (hf : FolOut l dss ord first n W v at_ en) : FolOut l2 dss ord first n W v at_ en := by
  have hw := h.wrg n
  rcases hf with ⟨h1, h2, h3, h4⟩ | ⟨h1, i, bs, h2, h3, h4, h5⟩ | ⟨h1, bs, h2, h3, h4⟩ | ⟨h1, bs, co, cc, h2, h3, h4⟩
  · exact .inl ⟨by rw [hw]; exact h1, h2, h3, by rw [hw]; exact h4⟩
  · exact .inr (.inl ⟨by rw [hw]; exact h1, i, bs, h.folR h2, h3, fun k q ds hg => by
      obtain ⟨p, _, hg2⟩ := h.symm.goes hg
      exact h4 k p ds hg2, h5⟩)
  · exact .inr (.inr (.inl ⟨by rw [hw]; exact h1, bs, h.folR h2, fun hy => h3 (by rw [h.len] at hy; exact h.symm.whl hy), h4⟩))
  · exact .inr (.inr (.inr ⟨by rw [hw]; exact h1, bs, co, cc, h.folR h2, by rw [h.len]; exact h.whl h3, h4⟩))
theorem FolR.goes {l : List Opv} {dss : List (List Nat)} {ord : List Int} {first : List Nat} {i : Nat} : ∀ {j : Nat} {bs : List Nat}, FolR l dss ord first j bs → i < j → ∃ bs0 k p ds, FolR l dss ord first i bs0 ∧ Goes l dss ord bs0 i k p ds
  | 0, _, _, h => absurd h (Nat.not_lt_zero _)
  | j + 1, _, h9, h => by
    obtain ⟨k, bs, ds, p, hf, hg, e9⟩ := FolR.inv h9
    rcases Nat.lt_or_ge i j with h1 | h1
    · exact FolR.goes hf h1
    · obtain rfl : i = j := by omega
      exact ⟨bs, k, p, ds, hf, hg⟩
/-- two answers say the same -/
theorem FolOut.det {l : List Opv} {dss : List (List Nat)} {ord : List Int} {first : List Nat} {n : Nat} {W W' : World} {v v' : Value} {at_ en at2 en2 : Int} (h : FolOut l dss ord first n W v at_ en) (h' : FolOut l dss ord first n W' v' at2 en2) : at_ = at2 ∧ en = en2 ∧ ((v = .slice none 0 0 ∧ v' = .slice none 0 0) ∨ ∃ bs co cc co2 cc2, v = .slice co n cc ∧ BRow W co cc bs ∧ v' = .slice co2 n cc2 ∧ BRow W' co2 cc2 bs ∧ bs.length = n) := by
  rcases h with ⟨h1, h2, h3, h4⟩ | ⟨h1, i, bs, h2, h3, h4, h5, h6, h7⟩ | ⟨h1, bs, h2, h3, h4, h5, h6⟩ | ⟨h1, bs, co, cc, h2, h3, h4, h5, h6, h7, h8⟩ <;> rcases h' with ⟨g1, g2, g3, g4⟩ | ⟨g1, j, bs', g2, g3, g4, g5, g6, g7⟩ | ⟨g1, bs', g2, g3, g4, g5, g6⟩ | ⟨g1, bs', co', cc', g2, g3, g4, g5, g6, g7, g8⟩
  · exact ⟨by rw [h3, g3], by rw [h4, g4], .inl ⟨h2, g2⟩⟩
  · exact absurd g1 h1
  · exact absurd g1 h1
  · exact absurd g1 h1
  · exact absurd h1 g1
  · rcases Nat.lt_trichotomy i j with e | e | e
    · obtain ⟨bs0, k, p, ds, q1, q2⟩ := g2.goes e
      cases FolR.det h2 q1
      exact absurd q2 (h4 k p ds)
    · subst e; exact ⟨by rw [h6, g6], by rw [h7, g7], .inl ⟨h5, g5⟩⟩
    · obtain ⟨bs0, k, p, ds, q1, q2⟩ := h2.goes e
      cases FolR.det g2 q1
      exact absurd q2 (g4 k p ds)
  · obtain ⟨bs0, k, p, ds, q1, q2⟩ := g2.goes h3
    cases FolR.det h2 q1
    exact absurd q2 (h4 k p ds)
  · obtain ⟨bs0, k, p, ds, q1, q2⟩ := g2.goes h3
    cases FolR.det h2 q1
    exact absurd q2 (h4 k p ds)
  · exact absurd h1 g1
  · obtain ⟨bs0, k, p, ds, q1, q2⟩ := h2.goes g3
    cases FolR.det g2 q1
    exact absurd q2 (g4 k p ds)
  · exact ⟨by rw [h5, g5], by rw [h6, g6], .inl ⟨h4, g4⟩⟩
  · exact absurd g3 h3
  · exact absurd h1 g1
  · obtain ⟨bs0, k, p, ds, q1, q2⟩ := h2.goes g3
    cases FolR.det g2 q1
    exact absurd q2 (g4 k p ds)
  · exact absurd h3 g3
  · cases FolR.det h2 g2
    exact ⟨by rw [h7, g7], by rw [h8, g8], .inr ⟨bs, co, cc, co', cc', h4, h5, g4, g5, h6⟩⟩
end Go.Proofs.Ytjkoambfecmglaa

namespace Go.Proofs.Ytjkoambfecmglaa
open Go.RowKit
set_option linter.unusedVariables false
set_option linter.unusedSimpArgs false
set_option maxRecDepth 100000
theorem brow_det {W : World} {ao : Option Addr} {c c' : Nat} {l l' : List Nat} (h : BRow W ao c l) (h' : BRow W ao c' l') (hl : l.length = l'.length) : l = l' := by
  apply List.ext_getElem hl
  intro k h1 h2
  obtain ⟨b, off, e, hc⟩ := h.at_ (by rintro rfl; simp at h1)
  obtain ⟨b', off', e', hc'⟩ := h'.at_ (by rintro rfl; simp at h2)
  rw [e] at e'; cases e'
  have h3 := hc k h1
  rw [hc' k h2] at h3
  simp [bv] at h3
  omega
theorem brow_own {W : World} {B k cc : Nat} {co : Option Addr} {bs : List Nat} (h : W.ownsRow B 5 1 (.slice co k cc) k (bs.map bv)) (hl : bs.length = k) (hlt : ∀ x ∈ bs, x < 256) (hk : k ≤ 140737488351232) : BRow W co cc bs := by
  subst hl
  obtain ⟨a, c, e, hr⟩ := BRow.own h hlt hk
  cases e
  exact hr
theorem newb_row {W : World} {B n cc : Nat} {co : Option Addr} {bs : List Nat} (h : NewB B W (.slice co n cc)) (hb : BRow W co cc bs) (hn : bs.length = n) : W.ownsRow B 5 1 (.slice co n cc) n (bs.map bv) ∧ n ≤ 4096 := by
  obtain ⟨bs1, h1, hlt, hl⟩ := h
  have hn1 : bs1.length = n := by
    rcases h1.2 with ⟨h0, h2⟩ | ⟨g, cap, cur, hv, _⟩
    · cases h0; exact h2
    · cases hv; rfl
  rw [hn1] at h1
  have h3 := brow_det hb (brow_own h1 hn1 hlt (by omega)) (by omega)
  subst h3
  exact ⟨h1, by omega⟩
theorem follow_pair {l : List Opv} {dss : List (List Nat)} {ord : List Int} {first : List Nat} {n B B' : Nat} {W W' : World} {v v' : Value} {at_ en at2 en2 : Int} (h : FolOut l dss ord first n W v at_ en) (hn : NewB B W v) (h' : FolOut l dss ord first n W' v' at2 en2) (hn' : NewB B' W' v') : at_ = at2 ∧ en = en2 ∧ ∃ (k : Nat) (bs : List Nat) (co : Option Addr) (cc : Nat) (co2 : Option Addr) (cc2 : Nat), v = .slice co k cc ∧ v' = .slice co2 k cc2 ∧ bs.length = k ∧ W.ownsRow B 5 1 (.slice co k cc) k (bs.map bv) ∧ W'.ownsRow B' 5 1 (.slice co2 k cc2) k (bs.map bv) ∧ (∀ x ∈ bs, x < 256) ∧ k ≤ 4096 := by
  obtain ⟨h1, h2, h3⟩ := h.det h'
  refine ⟨h1, h2, ?_⟩
  rcases h3 with ⟨rfl, rfl⟩ | ⟨bs, co, cc, co2, cc2, rfl, h4, rfl, h5, h6⟩
  · exact ⟨0, [], none, 0, none, 0, rfl, rfl, rfl, ⟨rfl, .inl ⟨rfl, rfl⟩⟩, ⟨rfl, .inl ⟨rfl, rfl⟩⟩, by simp, by simp⟩
  · exact ⟨n, bs, co, cc, co2, cc2, rfl, rfl, h6, (newb_row hn h4 h6).1, (newb_row hn' h5 h6).1, h4.lt, (newb_row hn h4 h6).2⟩
theorem same_row {ao bo : Option Addr} {c c' k : Nat} {l : List Nat} {W : World} (hl : l.length = k) (h : BRow W ao c l) (h' : BRow W bo c' l) : Calls Try.prog 13 #[.slice ao k c, .slice bo k c'] W fun e w' => e = .returned (.bool true) ∧ Below W.heap.size W w' := by
  subst hl
  refine (same_any ao bo c c' l l W h h').mono ?_
  rintro e w' ⟨rfl, q, rfl⟩
  exact ⟨by simp, ⟨rfl, rfl, rfl, Nat.le_refl _, fun _ _ => rfl⟩⟩
set_option maxHeartbeats 64000000 in
/-- the law -/
theorem law_any (w : World) (fa oa za : Option Addr) (n fc m oc d zc : Nat) (first : List Nat) (l : List Opv) (dss : List (List Nat)) (ord : List Int) (hb : BRow w fa fc first) (hn : first.length = n) (h : OpsD w oa l dss) (hm : l.length = m) (hs : m ≤ 1048576) (hz : ZRow w za ord) (hd : ord.length = d) (hds : d ≤ 1048576) (hzc : d ≤ zc) (hzn : za = none → d = 0 ∧ zc = 0) :
    Calls Try.prog 3 #[.slice fa n fc, .slice oa m oc, .slice za d zc] w fun e w' => e = .returned (.bool true) ∧ Below w.heap.size w w' := by
  have HD : Hid (BRow w fa fc first ∧ first.length = n ∧ OpsD w oa l dss ∧ l.length = m ∧ ZRow w za ord ∧ ord.length = d) := ⟨hb, hn, h, hm, hz, hd⟩
  have HM : Hid (m ≤ 1048576 ∧ d ≤ 1048576 ∧ d ≤ zc ∧ (za = none → d = 0 ∧ zc = 0)) := ⟨hs, hds, hzc, hzn⟩
  have HC1 : Hid _ := copy_row hb hn
  clear hb hn h hm hs hz hd hds hzc hzn
  go_enter Try.func3, Try.ntmps3
  go_wp2_with fail
  refine Calls.mono HC1.out ?_
  rintro e W1 ⟨f1, c1, rfl, ho1, hb1⟩
  have H1 : Hid (Below w.heap.size w W1 ∧ BRow W1 f1 c1 first) := ⟨hb1, brow_own ho1 HD.out.2.1 HD.out.1.lt (by have := HD.out.1.len; rw [HD.out.2.1] at this; exact this)⟩
  have HO1 : Hid _ := ops_any oa m oc l dss W1 (HD.out.2.2.1.later hb1) HD.out.2.2.2.1 HM.out.1
  clear ho1 hb1 HC1
  go_wp2_with fail
  refine Calls.mono HO1.out ?_
  rintro e W2 ⟨oa2, oc2, l2, rfl, hb2, hO2, hl2, hsb⟩
  have H2 : Hid (Below w.heap.size w W2 ∧ BRow W2 f1 c1 first ∧ OpsD W2 oa2 l2 dss ∧ l2.length = m ∧ Sibs l l2) := ⟨H1.out.1.trans (hb2.mono H1.out.1.size), H1.out.2.later hb2, hO2, hl2, ⟨by rw [hl2, HD.out.2.2.2.1], hsb⟩⟩
  clear hb2 hO2 hl2 hsb HO1 H1
  obtain ⟨i0, hi0, hz0, hz1, hz2⟩ := info_parts Try.info3
  have HNw : Hid (∀ ad, za = some ad → ∀ j u, (ord.map (Value.int .i64))[j]? = some u → W2.cell? (ad.add j) = some u) := fun ad e j u hu => by
    rw [List.getElem?_map] at hu
    by_cases hj : j < ord.length
    · rw [List.getElem?_eq_getElem hj] at hu
      obtain ⟨b, off, e2, hc⟩ := (HD.out.2.2.2.2.1.later H2.out.1).at_ (by rintro rfl; simp at hj)
      rw [e] at e2; cases e2
      cases hu
      rw [add_plain]; exact hc j hj
    · rw [List.getElem?_eq_none (by omega)] at hu; cases hu
  have HOne : Hid (∀ u ∈ ord.map (Value.int .i64), u.oneCell' = true) := fun u hu => by
    obtain ⟨x, _, rfl⟩ := List.mem_map.1 hu
    rfl
  go_wp2_with (at_builtin; refine wpList_append_two _ rfl _ _ 24 rfl W2.heap.size 3 i0 (.int .i64 0) 8 Try.underlying24 hi0 hz0 hz1 hz2 rfl (.slice none 0 0) 0 [] rfl (World.ownsRow_nil _ _ _ _) za d zc (ord.map (Value.int .i64)) rfl HM.out.2.2.2 (by rw [List.length_map]; exact HD.out.2.2.2.2.2) HNw.out HOne.out (by have := HM.out.2.1; unfold maxLen; omega) (by have := HM.out.2.1; omega) (Nat.le_refl _) ?_)
  intro v3 W3 ho3 hg3 _
  try rw [Nat.zero_add] at ho3
  try rw [List.nil_append] at ho3
  obtain ⟨o1, oc1, rfl, hz3⟩ := zrow_own ho3 HD.out.2.2.2.2.2
  have hb3 : Below W2.heap.size W2 W3 := (Below.refl _ _).grown hg3 (Nat.le_refl _) (by simp [Value.ownBlock])
  have H3 : Hid (Below w.heap.size w W3 ∧ BRow W3 f1 c1 first ∧ OpsD W3 oa2 l2 dss ∧ ZRow W3 o1 ord) := ⟨H2.out.1.trans (hb3.mono H2.out.1.size), H2.out.2.1.later hb3, H2.out.2.2.1.later hb3, hz3⟩
  have HF4 : Hid _ := follow_any f1 oa2 o1 n c1 m oc2 d oc1 first l2 dss ord W3 H3.out.2.1 HD.out.2.1 H3.out.2.2.1 H2.out.2.2.2.1 (by have := HM.out.1; omega) H3.out.2.2.2 HD.out.2.2.2.2.2 (by have := HM.out.2.1; omega)
  clear ho3 hg3 hz3 hb3 HNw HOne
  go_wp2_with fail
  refine Calls.mono HF4.out ?_
  rintro e W4 ⟨v, at_, en, rfl, hF4, hN4, hb4⟩
  have H4 : Hid (Below W3.heap.size W3 W4 ∧ FolOut l dss ord first n W4 v at_ en ∧ NewB W3.heap.size W4 v) := ⟨hb4, H2.out.2.2.2.2.symm.folOut hF4, hN4⟩
  have HBw4 : Hid (Below w.heap.size w W4) := H3.out.1.trans (hb4.mono H3.out.1.size)
  have HF5 : Hid _ := rFollow_new fa oa za n fc m oc d zc first l dss ord W4 (HD.out.1.later HBw4.out) HD.out.2.1 (HD.out.2.2.1.later HBw4.out) HD.out.2.2.2.1 (by have := HM.out.1; omega) (HD.out.2.2.2.2.1.later HBw4.out) HD.out.2.2.2.2.2 (by have := HM.out.2.1; omega) HM.out.2.2.1
  clear hF4 hN4 hb4 HF4
  go_wp2_with fail
  refine Calls.mono HF5.out ?_
  rintro e W5 ⟨v', at2, en2, rfl, hF5, hN5, hb5⟩
  have H5 : Hid (Below W4.heap.size W4 W5 ∧ FolOut l dss ord first n W5 v' at2 en2 ∧ NewB W4.heap.size W5 v') := ⟨hb5, hF5, hN5⟩
  obtain ⟨rfl, rfl, k, bs, vb, vc, cb, cc, rfl, rfl, hbk, hr4, hr5, hlt, hk⟩ := follow_pair H4.out.2.1 H4.out.2.2 hF5 hN5
  have HR : Hid (bs.length = k ∧ W4.ownsRow W3.heap.size 5 1 (.slice vb k vc) k (bs.map bv) ∧ W5.ownsRow W4.heap.size 5 1 (.slice cb k cc) k (bs.map bv) ∧ (∀ x ∈ bs, x < 256) ∧ k ≤ 4096) := ⟨hbk, hr4, hr5, hlt, hk⟩
  have HB35 : Hid (Below W3.heap.size W3 W5) := H4.out.1.trans (hb5.mono H4.out.1.size)
  have HB5 : Hid (∀ X, Below W5.heap.size W5 X → Below w.heap.size w X ∧ Below W3.heap.size W3 X) := fun X hX => ⟨HBw4.out.trans ((hb5.trans (hX.mono hb5.size)).mono HBw4.out.size), HB35.out.trans (hX.mono HB35.out.size)⟩
  have HK5 : Hid (∀ X, Below W5.heap.size W5 X → Calls Try.prog 13 #[.slice vb k vc, .slice cb k cc] X fun e w' => e = .returned (.bool true) ∧ Below X.heap.size X w') := fun X hX => by
    refine same_row HR.out.1 (brow_own (B := W3.heap.size) ?_ HR.out.1 HR.out.2.2.2.1 (by have := HR.out.2.2.2.2; omega)) (brow_own (B := W4.heap.size) ?_ HR.out.1 HR.out.2.2.2.1 (by have := HR.out.2.2.2.2; omega))
    · exact owns_same HR.out.2.1 fun g e => (hX.block g (Nat.lt_of_lt_of_le (owns_in HR.out.2.1 e).2 hb5.size)).trans (hb5.block g (owns_in HR.out.2.1 e).2)
    · exact owns_same HR.out.2.2.1 fun g e => hX.block g (owns_in HR.out.2.2.1 e).2
  have HSf : Hid (∀ X, Below w.heap.size w X → Below W3.heap.size W3 X → Calls Try.prog 13 #[.slice f1 n c1, .slice fa n fc] X fun e w' => e = .returned (.bool true) ∧ Below X.heap.size X w') := fun X hX hX3 => same_row HD.out.2.1 (H3.out.2.1.later hX3) (HD.out.1.later hX)
  have HSo : Hid (∀ X, Below w.heap.size w X → Below W3.heap.size W3 X → Calls Try.prog 14 #[.slice oa2 m oc2, .slice oa m oc] X fun e w' => e = .returned (.bool true) ∧ Below X.heap.size X w') := fun X hX hX3 => sameOps_any oa2 oa m oc2 oc l2 l dss X H2.out.2.2.2.1 HD.out.2.2.2.1 (by have := HM.out.1; omega) (H3.out.2.2.1.later hX3) (HD.out.2.2.1.later hX) (fun k p q hp hq => (H2.out.2.2.2.2.sib k q p hq hp).symm)
  have HSi : Hid (∀ X, Below w.heap.size w X → Below W3.heap.size W3 X → Calls Try.prog 15 #[.slice o1 d oc1, .slice za d zc] X fun e w' => e = .returned (.bool true) ∧ Below X.heap.size X w') := fun X hX hX3 => (sameInts_any o1 za oc1 zc d ord X HD.out.2.2.2.2.2 (by have := HM.out.2.1; omega) (H3.out.2.2.2.later hX3) (HD.out.2.2.2.2.1.later hX)).mono (by rintro e w' ⟨rfl, q, rfl⟩; exact ⟨rfl, ⟨rfl, rfl, rfl, Nat.le_refl _, fun _ _ => rfl⟩⟩)
  clear hF5 hN5 hb5 hbk hr4 hr5 hlt hk HF5
  go_wp2_with fail
  refine Calls.mono (HK5.out _ (Below.refl _ _)) ?_
  rintro e X1 ⟨rfl, hx1⟩
  have HX1 : Hid (Below W5.heap.size W5 X1) := hx1
  clear hx1
  go_wp2_with fail
  refine Calls.mono (HSf.out _ (HB5.out _ HX1.out).1 (HB5.out _ HX1.out).2) ?_
  rintro e X2 ⟨rfl, hx2⟩
  have HX2 : Hid (Below W5.heap.size W5 X2) := HX1.out.trans (hx2.mono HX1.out.size)
  clear hx2
  go_wp2_with fail
  refine Calls.mono (HSo.out _ (HB5.out _ HX2.out).1 (HB5.out _ HX2.out).2) ?_
  rintro e X3 ⟨rfl, hx3⟩
  have HX3 : Hid (Below W5.heap.size W5 X3) := HX2.out.trans (hx3.mono HX2.out.size)
  clear hx3
  go_wp2_with fail
  refine Calls.mono (HSi.out _ (HB5.out _ HX3.out).1 (HB5.out _ HX3.out).2) ?_
  rintro e W6 ⟨rfl, hx4⟩
  have HX4 : Hid (Below W5.heap.size W5 W6) := HX3.out.trans (hx4.mono HX3.out.size)
  have HRw : Hid (W6.ownsRow W3.heap.size 5 1 (.slice vb k vc) k (bs.map bv)) := owns_same HR.out.2.1 fun g e => (HX4.out.block g (Nat.lt_of_lt_of_le (owns_in HR.out.2.1 e).2 H5.out.1.size)).trans (H5.out.1.block g (owns_in HR.out.2.1 e).2)
  clear hx4 HX1 HX2 HX3 HK5
  go_wp2_with fail
  go_loopw [16] (fun xv wr => ∃ (i : Nat) (xs : List Nat), i ≤ k ∧ xv = .int .i64 (i : Int) ∧ Hid (wr.ownsRow W3.heap.size 5 1 (.slice vb k vc) k (xs.map bv) ∧ xs.length = k ∧ (∀ x ∈ xs, x < 256) ∧ W6.grownBy wr (Value.slice vb k vc).ownBlock)) (fun xv _ => k - (intOf xv).toNat)
  case atStart => exact ⟨0, bs, Nat.zero_le _, rfl, HRw.out, HR.out.1, HR.out.2.2.2.1, World.grownBy.refl _ _⟩
  case round =>
    obtain ⟨i, xs, hi, rfl, HL⟩ := hrel
    by_cases hlk : i < k
    · have n9 : decide ((i : Int) < (k : Int)) = true := decide_eq_true (by omega)
      have ii0 : (0 : Int) ≤ (i : Int) := by omega
      have ii9 : (i : Int) < (k : Int) := by omega
      have hkx : k ≤ 4096 := HR.out.2.2.2.2
      obtain ⟨g, hgv, hg3, hcell, hfr⟩ := own_some HL.out.1 (by omega)
      subst hgv
      obtain ⟨x, hx⟩ : ∃ x, xs[i]? = some x := ⟨_, List.getElem?_eq_getElem (by rw [HL.out.2.1]; exact hlk)⟩
      have c0 : wr.cell? ⟨g, i, none⟩ = some (.int .u8 (x : Int)) := by rw [hcell i hlk, List.getElem?_map, hx]; rfl
      have f0 : wr.frozen? ⟨g, i, none⟩ = false := hfr i
      have hx8 : x < 256 := HL.out.2.2.1 x (List.mem_of_getElem? hx)
      obtain ⟨y, hy, hyl⟩ : ∃ y : Nat, IntKind.u8.wrap ((x : Int) + 1) = (y : Int) ∧ y < 256 := by
        refine ⟨(x + 1) % 256, ?_, Nat.mod_lt _ (by decide)⟩
        rw [IntKind.wrap_u8]; omega
      have HN : Hid ((wr.setCell ⟨g, i, none⟩ (.int .u8 (y : Int))).ownsRow W3.heap.size 5 1 (.slice (some ⟨g, 0, none⟩) k vc) k ((xs.set i y).map bv) ∧ (xs.set i y).length = k ∧ (∀ x ∈ xs.set i y, x < 256) ∧ W6.grownBy (wr.setCell ⟨g, i, none⟩ (.int .u8 (y : Int))) (Value.slice (some ⟨g, 0, none⟩) k vc).ownBlock) := by
        refine ⟨?_, by rw [List.length_set]; exact HL.out.2.1, fun z hz => ?_, ?_⟩
        · have := own_set HL.out.1 (.int .u8 (y : Int)) hlk
          rw [List.map_set]
          exact this
        · rcases List.mem_or_eq_of_mem_set hz with h1 | h1
          · exact HL.out.2.2.1 z h1
          · rw [h1]; exact hyl
        · exact HL.out.2.2.2.trans (own_setCells [.int .u8 (y : Int)] i HL.out.1 (by simp; omega)).2
      clear hcell hfr hx hx8 hyl
      go_wp2_with fail
      go_roundw
      case rel => exact ⟨i + 1, _, by omega, by go_num, HN.out⟩
      case measure => simp [intOf]; omega
    · have n9 : decide ((i : Int) < (k : Int)) = false := decide_eq_false (by omega)
      have HB7 : Hid (Below w.heap.size w wr ∧ Below W3.heap.size W3 wr) := by
        have h6 := HB5.out _ HX4.out
        exact ⟨h6.1.grown HL.out.2.2.2 h6.1.size (fun g e => Nat.le_trans H3.out.1.size (owns_in HL.out.1 e).1), h6.2.grown HL.out.2.2.2 h6.2.size (fun g e => (owns_in HL.out.1 e).1)⟩
      have HC7 : Hid (∀ (k2 : Nat) (bs2 : List Nat) (X : World), W5.ownsRow W4.heap.size 5 1 (.slice cb k2 cc) k2 (bs2.map bv) → Below wr.heap.size wr X → X.ownsRow W4.heap.size 5 1 (.slice cb k2 cc) k2 (bs2.map bv)) := fun k2 bs2 X h1 hX => owns_same h1 fun g e => by
        have h2 := owns_in h1 e
        have h3 : g < W6.heap.size := Nat.lt_of_lt_of_le h2.2 HX4.out.size
        refine (hX.block g (Nat.lt_of_lt_of_le h3 HL.out.2.2.2.size)).trans ((HL.out.2.2.2.block g h3 (fun e2 => ?_)).trans (HX4.out.block g h2.2))
        have h4 := (owns_in HR.out.2.1 e2.symm).2
        omega
      have HF8 : Hid _ := follow_any f1 oa2 o1 n c1 m oc2 d oc1 first l2 dss ord wr (H3.out.2.1.later HB7.out.2) HD.out.2.1 (H3.out.2.2.1.later HB7.out.2) H2.out.2.2.2.1 (by have := HM.out.1; omega) (H3.out.2.2.2.later HB7.out.2) HD.out.2.2.2.2.2 (by have := HM.out.2.1; omega)
      clear HRw
      go_wp2_with fail
      refine Calls.mono HF8.out ?_
      rintro e W8 ⟨v8, at8, en8, rfl, hF8, hN8, hb8⟩
      obtain ⟨rfl, rfl, k8, bs8, va8, vc8, cb8, cc8, rfl, hcc, hl8, hr8, hr9, hlt8, hk8⟩ := follow_pair (H2.out.2.2.2.2.symm.folOut hF8) hN8 H5.out.2.1 H5.out.2.2
      cases hcc
      have HB8 : Hid (∀ X, Below W8.heap.size W8 X → Below w.heap.size w X ∧ Below W3.heap.size W3 X) := fun X hX => ⟨HB7.out.1.trans ((hb8.trans (hX.mono hb8.size)).mono HB7.out.1.size), HB7.out.2.trans ((hb8.trans (hX.mono hb8.size)).mono HB7.out.2.size)⟩
      have HK8 : Hid _ := same_row (W := W8) hl8 (brow_own hr8 hl8 hlt8 (by omega)) (brow_own (HC7.out _ _ W8 hr9 hb8) hl8 hlt8 (by omega))
      clear hF8 hN8 hb8 hl8 hr8 hr9 hlt8 hk8 HF8 HC7
      go_wp2_with fail
      refine Calls.mono HK8.out ?_
      rintro e Y1 ⟨rfl, hy1⟩
      have HY1 : Hid (Below W8.heap.size W8 Y1) := hy1
      clear hy1 HK8
      go_wp2_with fail
      refine Calls.mono (HSf.out _ (HB8.out _ HY1.out).1 (HB8.out _ HY1.out).2) ?_
      rintro e Y2 ⟨rfl, hy2⟩
      have HY2 : Hid (Below W8.heap.size W8 Y2) := HY1.out.trans (hy2.mono HY1.out.size)
      clear hy2
      go_wp2_with fail
      refine Calls.mono (HSo.out _ (HB8.out _ HY2.out).1 (HB8.out _ HY2.out).2) ?_
      rintro e Y3 ⟨rfl, hy3⟩
      have HY3 : Hid (Below W8.heap.size W8 Y3) := HY2.out.trans (hy3.mono HY2.out.size)
      clear hy3
      go_wp2_with fail
      refine Calls.mono (heads_any Y3) ?_
      rintro e Y4 ⟨rfl, hy4⟩
      have HY4 : Hid (Below W8.heap.size W8 Y4) := HY3.out.trans (hy4.mono HY3.out.size)
      clear hy4
      go_wp2_with fail
      go_ret
      exact ⟨rfl, (HB8.out _ HY4.out).1⟩
end Go.Proofs.Ytjkoambfecmglaa
