import Derived.Test.YtjkoambfecmglaaVSqz
namespace Go.Proofs.Ytjkoambfecmglaa
open Go.RowKit Go.Maps
set_option linter.unusedVariables false
set_option linter.unusedSimpArgs false
set_option maxRecDepth 100000
theorem Try.info50 : (Try.prog.info? 50).map (fun i => (i.zero, i.size, i.bytes)) = some (some (.agg #[.int .i64 0, .int .i64 0, .int .i64 0, .int .i64 0, .int .i64 0, .slice none 0 0, .bool false]), 7, 72) := by kernel_rfl
theorem Try.under23 : Try.prog.underlying 23 = some (.slice 50) := by kernel_rfl
theorem copy_row {ao : Option Addr} {cap n : Nat} {l : List Nat} {w : World} (h : BRow w ao cap l) (hn : l.length = n) :
    Calls Try.prog 9 #[.slice ao n cap] w fun e w' => ∃ va vc, e = .returned (.slice va n vc) ∧ w'.ownsRow w.heap.size 5 1 (.slice va n vc) n (l.map bv) ∧ Below w.heap.size w w' := by
  subst hn
  cases ao with
  | none =>
    obtain ⟨e1, e2⟩ := h.nil rfl
    subst e1 e2
    refine (copy_none w).mono ?_
    rintro e w' ⟨rfl, rfl⟩
    exact ⟨none, 0, rfl, ⟨rfl, .inl ⟨rfl, rfl⟩⟩, Below.refl _ _⟩
  | some ad =>
    refine (copy_some ad cap l w h).mono ?_
    rintro e w' ⟨v, rfl, ho, hb⟩
    obtain ⟨va, vc, rfl, _⟩ := BRow.own ho h.lt h.len
    exact ⟨va, vc, rfl, ho, hb⟩
abbrev ocells (l : List Opv) : List Value := l.flatMap fun o => o.cells.toList
theorem ocells_at : ∀ (l : List Opv) (i j : Nat) (o : Opv), l[i]? = some o → j < 7 → (ocells l)[i * 7 + j]? = o.cells[j]?
  | [], i, j, o, h, _ => by simp at h
  | u :: l, 0, j, o, h, hj => by
    simp at h
    subst h
    rw [ocells, List.flatMap_cons, List.getElem?_append_left (by simp; omega)]
    simp
  | u :: l, i + 1, j, o, h, hj => by
    have ih := ocells_at l i j o (by simpa using h) hj
    rw [ocells, List.flatMap_cons, List.getElem?_append_right (by simp; omega)]
    rw [show (i + 1) * 7 + j - u.cells.toList.length = i * 7 + j by simp; omega]
    exact ih
theorem opsR_own {W : World} {B n : Nat} {v : Value} {l : List Opv} (h : W.ownsRow B 50 7 v n (ocells l)) (hn : l.length = n) : ∃ ao cap, v = .slice ao n cap ∧ OpsR W ao l := by
  rcases h.2 with ⟨rfl, h0⟩ | ⟨g, cap, cur, rfl, hb, hg, hc, _, hsz, ht⟩
  · exact ⟨none, 0, by rw [h0], ⟨fun hl => absurd (List.eq_nil_of_length_eq_zero (by omega)) hl⟩⟩
  · refine ⟨_, cap, rfl, ⟨fun _ => ⟨g, 0, rfl, fun i hi j x hx => ?_⟩⟩⟩
    have hj : j < 7 := by
      have := (Array.getElem?_eq_some_iff.1 hx).1
      simpa using this
    have h1 := ocells_at l i j l[i] (List.getElem?_eq_getElem hi) hj
    rw [hx, ← ht, List.getElem?_take, if_pos (by omega)] at h1
    unfold World.cell?; simp only [hg]; simpa using h1
theorem own_form7 {w : World} {base e n : Nat} {v : Value} {xs : List Value} (h : w.ownsRow base e 7 v n xs) : ∃ ao cap, v = .slice ao n cap := by
  rcases h.2 with ⟨rfl, h0⟩ | ⟨g, cap, cur, rfl, _⟩
  · exact ⟨none, 0, by rw [h0]⟩
  · exact ⟨_, _, rfl⟩
set_option maxHeartbeats 16000000 in
/-- a copy of all, with the data -/
theorem ops_any (oa : Option Addr) (m oc : Nat) (l : List Opv) (dss : List (List Nat)) (w : World) (h : OpsD w oa l dss) (hm : l.length = m) (hs : m ≤ 1048576) :
    Calls Try.prog 10 #[.slice oa m oc] w fun e w' => ∃ oa2 oc2 l2, e = .returned (.slice oa2 m oc2) ∧ Below w.heap.size w w' ∧ OpsD w' oa2 l2 dss ∧ l2.length = m ∧ ∀ (k : Nat) (p q : Opv), l[k]? = some p → l2[k]? = some q → Sib p q := by
  have HD : Hid (OpsD w oa l dss ∧ l.length = m ∧ m ≤ 1048576) := ⟨h, hm, hs⟩
  have hmx : m ≤ 1048576 := hs
  clear h hm hs
  go_enter Try.func10, Try.ntmps10
  go_wp2
  go_loopw [4, 3] (fun xv cv wr => ∃ (i : Nat) (l2 : List Opv), i ≤ m ∧ xv = .int .i64 (i : Int) ∧ Hid (Below w.heap.size w wr ∧ wr.ownsRow w.heap.size 50 7 cv i (ocells l2) ∧ l2.length = i ∧ (∀ (k : Nat) (p q : Opv), l[k]? = some p → l2[k]? = some q → Sib p q) ∧ ∀ (k : Nat) (q : Opv) (ds : List Nat), l2[k]? = some q → dss[k]? = some ds → wr.ownsRow w.heap.size 5 1 (.slice q.da q.n q.dc) q.n (ds.map bv))) (fun xv _ _ => m - (intOf xv).toNat)
  case atStart => exact ⟨0, [], Nat.zero_le _, rfl, Below.refl _ _, ⟨rfl, .inl ⟨rfl, rfl⟩⟩, rfl, fun k p q _ h => by simp at h, fun k q ds h => by simp at h⟩
  case round =>
    obtain ⟨i, l2, hi, rfl, HB⟩ := hrel
    obtain ⟨ca, cc, hcv⟩ := own_form7 HB.out.2.1
    subst hcv
    by_cases hlt : i < m
    · have n9 : decide ((i : Int) < (m : Int)) = true := decide_eq_true (by omega)
      have ii0 : (0 : Int) ≤ (i : Int) := by omega
      have ii9 : (i : Int) < (m : Int) := by omega
      have HIi : Hid (i < m) := hlt
      obtain ⟨o, ho⟩ : ∃ o, l[i]? = some o := ⟨_, List.getElem?_eq_getElem (by rw [HD.out.2.1]; exact hlt)⟩
      obtain ⟨ds, hds⟩ : ∃ ds, dss[i]? = some ds := ⟨_, List.getElem?_eq_getElem (by rw [HD.out.1.len, HD.out.2.1]; exact hlt)⟩
      obtain ⟨hr1, hr2⟩ := HD.out.1.row i o ds ho hds
      obtain ⟨b, off, e1, hc2⟩ := ops_at (HD.out.1.ops.later HB.out.1) ho
      subst e1
      have HOo : Hid (l[i]? = some o ∧ dss[i]? = some ds ∧ ds.length = o.n) := ⟨ho, hds, hr2⟩
      have HCp : Hid (∀ V, Below wr.heap.size wr V → Calls Try.prog 9 #[.slice o.da o.n o.dc] V fun e w' => ∃ va vc, e = .returned (.slice va o.n vc) ∧ w'.ownsRow V.heap.size 5 1 (.slice va o.n vc) o.n (ds.map bv) ∧ Below V.heap.size V w') := fun V hV => copy_row (hr1.later (HB.out.1.trans (hV.mono HB.out.1.size))) hr2
      have c0 : wr.cell? ⟨b, off + i * 7, none⟩ = some (.int .i64 o.k) := hc2 0 _ rfl
      have c1 : wr.cell? ⟨b, off + i * 7 + 1, none⟩ = some (.int .i64 o.fr) := hc2 1 _ rfl
      have c2 : wr.cell? ⟨b, off + i * 7 + 2, none⟩ = some (.int .i64 o.to_) := hc2 2 _ rfl
      have c3 : wr.cell? ⟨b, off + i * 7 + 3, none⟩ = some (.int .i64 o.off) := hc2 3 _ rfl
      have c4 : wr.cell? ⟨b, off + i * 7 + 4, none⟩ = some (.int .i64 o.len) := hc2 4 _ rfl
      have c5 : wr.cell? ⟨b, off + i * 7 + 5, none⟩ = some (.slice o.da o.n o.dc) := hc2 5 _ rfl
      have c6 : wr.cell? ⟨b, off + i * 7 + 6, none⟩ = some (.bool o.sy) := hc2 6 _ rfl
      have HAl : Hid (Below wr.heap.size wr (wr.alloc (.cells #[.int .i64 o.k, .int .i64 o.fr, .int .i64 o.to_, .int .i64 o.off, .int .i64 o.len, .slice o.da o.n o.dc, .bool o.sy] 50))) := (Below.refl _ wr).alloc (Nat.le_refl _) _
      have c5b : (wr.alloc (.cells #[.int .i64 o.k, .int .i64 o.fr, .int .i64 o.to_, .int .i64 o.off, .int .i64 o.len, .slice o.da o.n o.dc, .bool o.sy] 50)).cell? ⟨b, off + i * 7 + 5, none⟩ = some (.slice o.da o.n o.dc) := cell_later HAl.out c5
      clear hc2 ho hds hr1 hr2
      go_wp2_with fail
      refine (HCp.out _ HAl.out).mono ?_
      rintro e W2 ⟨va, vc, rfl, hrow, hb2⟩
      have hB2 : Below wr.heap.size wr W2 := HAl.out.trans (hb2.mono HAl.out.size)
      have hblk : W2.heap[wr.heap.size]? = some (.cells #[.int .i64 o.k, .int .i64 o.fr, .int .i64 o.to_, .int .i64 o.off, .int .i64 o.len, .slice o.da o.n o.dc, .bool o.sy] 50 (0, 0)) := (hb2.block _ (by rw [World.size_alloc]; exact Nat.lt_succ_self _)).trans (heap_new _ _)
      have HBk : Hid _ := hblk
      have HB2 : Hid (Below wr.heap.size wr W2 ∧ W2.ownsRow (wr.heap.size + 1) 5 1 (.slice va o.n vc) o.n (ds.map bv)) := ⟨hB2, by have h9 := hrow; rw [World.size_alloc] at h9; exact h9⟩
      have e0 : W2.cell? ⟨wr.heap.size, 0, none⟩ = some (.int .i64 o.k) := blk_at hblk 0
      have e1 : W2.cell? ⟨wr.heap.size, 1, none⟩ = some (.int .i64 o.fr) := blk_at hblk 1
      have e2 : W2.cell? ⟨wr.heap.size, 2, none⟩ = some (.int .i64 o.to_) := blk_at hblk 2
      have e3 : W2.cell? ⟨wr.heap.size, 3, none⟩ = some (.int .i64 o.off) := blk_at hblk 3
      have e4 : W2.cell? ⟨wr.heap.size, 4, none⟩ = some (.int .i64 o.len) := blk_at hblk 4
      have e5 : W2.cell? ⟨wr.heap.size, 5, none⟩ = some (.slice o.da o.n o.dc) := blk_at hblk 5
      have e6 : W2.cell? ⟨wr.heap.size, 6, none⟩ = some (.bool o.sy) := blk_at hblk 6
      have ef : W2.frozen? ⟨wr.heap.size, 5, none⟩ = false := blk_free hblk 5
      have HB3 : Hid (Below wr.heap.size wr (W2.setCell ⟨wr.heap.size, 5, none⟩ (.slice va o.n vc))) := hB2.setCell (p := ⟨wr.heap.size, 5, none⟩) (Nat.le_refl _) _
      have HO4 : Hid (((W2.setCell ⟨wr.heap.size, 5, none⟩ (.slice va o.n vc)).alloc (.cells #[.int .i64 o.k, .int .i64 o.fr, .int .i64 o.to_, .int .i64 o.off, .int .i64 o.len, .slice va o.n vc, .bool o.sy] 50)).ownsRow w.heap.size 50 7 (.slice ca i cc) i (ocells l2)) := by
        have hX : Below wr.heap.size wr ((W2.setCell ⟨wr.heap.size, 5, none⟩ (.slice va o.n vc)).alloc (.cells #[.int .i64 o.k, .int .i64 o.fr, .int .i64 o.to_, .int .i64 o.off, .int .i64 o.len, .slice va o.n vc, .bool o.sy] 50)) := HB3.out.alloc HB3.out.size _
        exact rows_same HB.out.2.1 fun g e => hX.block g (owns_in HB.out.2.1 e).2
      have HNw : Hid (∀ j u, [Value.int .i64 o.k, .int .i64 o.fr, .int .i64 o.to_, .int .i64 o.off, .int .i64 o.len, .slice va o.n vc, .bool o.sy][j]? = some u → ((W2.setCell ⟨wr.heap.size, 5, none⟩ (.slice va o.n vc)).alloc (.cells #[.int .i64 o.k, .int .i64 o.fr, .int .i64 o.to_, .int .i64 o.off, .int .i64 o.len, .slice va o.n vc, .bool o.sy] 50)).cell? ((⟨W2.heap.size, 0, none⟩ : Addr).add j) = some u) := fun j u hu => by
        have h1 := new_at (W2.setCell ⟨wr.heap.size, 5, none⟩ (.slice va o.n vc)) (.cells #[.int .i64 o.k, .int .i64 o.fr, .int .i64 o.to_, .int .i64 o.off, .int .i64 o.len, .slice va o.n vc, .bool o.sy] 50) W2.heap.size (by rw [World.size_setCell])
        rw [add_plain, Nat.zero_add, blk_at h1 j, ← Array.getElem?_toList]
        exact hu
      have HBg : Hid (w.heap.size ≤ ((W2.setCell ⟨wr.heap.size, 5, none⟩ (.slice va o.n vc)).alloc (.cells #[.int .i64 o.k, .int .i64 o.fr, .int .i64 o.to_, .int .i64 o.off, .int .i64 o.len, .slice va o.n vc, .bool o.sy] 50)).heap.size) := by
        show _ ≤ _
        rw [World.size_alloc]
        exact Nat.le_succ_of_le (Nat.le_trans HB.out.1.size HB3.out.size)
      obtain ⟨i0, hi0, hz0, hz1, hz2⟩ := info_parts Try.info50
      clear hB2 hblk hrow hb2 c0 c1 c2 c3 c4 c5 c6 c5b
      go_wp2_with (at_builtin; refine wpList_append_own _ rfl _ _ 23 rfl w.heap.size 50 i0 _ 7 72 Try.under23 hi0 hz0 hz1 hz2 rfl (by decide) (.slice ca i cc) i (ocells l2) rfl HO4.out ⟨W2.heap.size, 0, none⟩ 1 1 [.int .i64 o.k, .int .i64 o.fr, .int .i64 o.to_, .int .i64 o.off, .int .i64 o.len, .slice va o.n vc, .bool o.sy] rfl rfl HNw.out (by simp [Value.oneCell']) (by have := HIi.out; have := HD.out.2.2; unfold maxLen; omega) (by have := HIi.out; have := HD.out.2.2; omega) HBg.out ?_)
      intro v3 W3 ho3 hg3 _
      obtain ⟨ca3, cc3, hv3⟩ := own_form7 ho3
      subst hv3
      have HR : Hid (Below w.heap.size w W3 ∧ W3.ownsRow w.heap.size 50 7 (.slice ca3 (i + 1) cc3) (i + 1) (ocells (l2 ++ [⟨o.k, o.fr, o.to_, o.off, o.len, va, o.n, vc, o.sy⟩])) ∧ (l2 ++ [(⟨o.k, o.fr, o.to_, o.off, o.len, va, o.n, vc, o.sy⟩ : Opv)]).length = i + 1 ∧ (∀ (k : Nat) (p q : Opv), l[k]? = some p → (l2 ++ [(⟨o.k, o.fr, o.to_, o.off, o.len, va, o.n, vc, o.sy⟩ : Opv)])[k]? = some q → Sib p q) ∧ ∀ (k : Nat) (q : Opv) (ds : List Nat), (l2 ++ [(⟨o.k, o.fr, o.to_, o.off, o.len, va, o.n, vc, o.sy⟩ : Opv)])[k]? = some q → dss[k]? = some ds → W3.ownsRow w.heap.size 5 1 (.slice q.da q.n q.dc) q.n (ds.map bv)) := by
        have hX : Below wr.heap.size wr ((W2.setCell ⟨wr.heap.size, 5, none⟩ (.slice va o.n vc)).alloc (.cells #[.int .i64 o.k, .int .i64 o.fr, .int .i64 o.to_, .int .i64 o.off, .int .i64 o.len, .slice va o.n vc, .bool o.sy] 50)) := HB3.out.alloc HB3.out.size _
        have hwr := HB.out.1.size
        have hl2 := HB.out.2.2.1
        refine ⟨(HB.out.1.trans (hX.mono hwr)).grown hg3 (Nat.le_trans hwr hX.size) (fun k e => (owns_in HB.out.2.1 e).1), ?_, by rw [List.length_append, hl2]; rfl, fun k p q hp hq => ?_, fun k q ds2 hq hd => ?_⟩
        · have h9 : ocells (l2 ++ [(⟨o.k, o.fr, o.to_, o.off, o.len, va, o.n, vc, o.sy⟩ : Opv)]) = ocells l2 ++ [.int .i64 o.k, .int .i64 o.fr, .int .i64 o.to_, .int .i64 o.off, .int .i64 o.len, .slice va o.n vc, .bool o.sy] := by simp [ocells]
          rw [h9]; exact ho3
        · rcases Nat.lt_or_ge k l2.length with h1 | h1
          · rw [List.getElem?_append_left h1] at hq; exact HB.out.2.2.2.1 k p q hp hq
          · rw [List.getElem?_append_right h1] at hq
            have hk0 := (List.getElem?_eq_some_iff.1 hq).1
            simp at hk0
            have hki : k = i := by omega
            subst hki
            rw [HOo.out.1] at hp
            rw [hk0] at hq
            simp at hq
            cases hp
            subst hq
            rfl
        · rcases Nat.lt_or_ge k l2.length with h1 | h1
          · rw [List.getElem?_append_left h1] at hq
            have h2 := HB.out.2.2.2.2 k q ds2 hq hd
            refine owns_same h2 fun g e => ?_
            have h3 := (owns_in h2 e).2
            obtain ⟨cu, h4⟩ := owns_type h2 g e
            refine (hg3.block g (Nat.lt_of_lt_of_le h3 hX.size) (fun e2 => ?_)).trans (hX.block g h3)
            rcases HB.out.2.1.2 with ⟨h5, _⟩ | ⟨g', cap, cur, h5, _, h6, _⟩
            · rw [h5] at e2; cases e2
            · rw [h5] at e2; cases e2; rw [h4] at h6; cases h6
          · rw [List.getElem?_append_right h1] at hq
            have hk0 := (List.getElem?_eq_some_iff.1 hq).1
            simp at hk0
            have hki : k = i := by omega
            subst hki
            rw [HOo.out.2.1] at hd
            cases hd
            rw [hk0] at hq
            simp at hq
            subst hq
            have h2 := HB2.out.2
            refine owns_mono (owns_same h2 fun g e => ?_) (Nat.le_succ_of_le hwr)
            have h3 := owns_in h2 e
            have h4 : g < ((W2.setCell ⟨wr.heap.size, 5, none⟩ (.slice va o.n vc)).alloc (.cells #[.int .i64 o.k, .int .i64 o.fr, .int .i64 o.to_, .int .i64 o.off, .int .i64 o.len, .slice va o.n vc, .bool o.sy] 50)).heap.size := by rw [World.size_alloc, World.size_setCell]; omega
            refine (hg3.block g h4 (fun e2 => ?_)).trans ?_
            · have h5 := (owns_in HB.out.2.1 e2.symm).2
              omega
            · refine ((World.grownBy_alloc (W2.setCell ⟨wr.heap.size, 5, none⟩ (.slice va o.n vc)) (.cells #[.int .i64 o.k, .int .i64 o.fr, .int .i64 o.to_, .int .i64 o.off, .int .i64 o.len, .slice va o.n vc, .bool o.sy] 50) none).block g (by rw [World.size_setCell]; exact h3.2) (by simp)).trans ?_
              exact Below.heap_setCell _ _ _ _ (by show g ≠ wr.heap.size; omega)
      clear ho3 hg3 e0 e1 e2 e3 e4 e5 e6 ef
      go_wp2
      go_roundw
      case rel => exact ⟨i + 1, _, HIi.out, by go_num, HR.out⟩
      case measure => simp [intOf]; omega
    · have n9 : decide ((i : Int) < (m : Int)) = false := decide_eq_false (by omega)
      have HIe : Hid (i = m) := Nat.le_antisymm hi (Nat.le_of_not_lt hlt)
      have HFi : Hid (∃ oa2 oc2, Value.slice ca i cc = .slice oa2 m oc2 ∧ OpsR wr oa2 l2) := by
        obtain ⟨ao, cap, h1, h2⟩ := opsR_own HB.out.2.1 HB.out.2.2.1
        have h3 := HIe.out
        exact ⟨ao, cap, by rw [h1, h3], h2⟩
      go_wp2_with fail
      go_ret
      obtain ⟨ao, cap, h1, h2⟩ := HFi.out
      refine ⟨ao, cap, l2, ?_, HB.out.1, ⟨h2, ?_, fun k q ds hq hd => ?_⟩, ?_, HB.out.2.2.2.1⟩
      · exact congrArg Ending.returned h1
      · rw [HB.out.2.2.1, HIe.out, ← HD.out.2.1, HD.out.1.len]
      · have h3 := HB.out.2.2.2.2 k q ds hq hd
        have hkm : k < l.length := by
          have := (List.getElem?_eq_some_iff.1 hq).1
          rw [HB.out.2.2.1, HIe.out, ← HD.out.2.1] at this; exact this
        have h4 := (HD.out.1.row k l[k] ds (List.getElem?_eq_getElem hkm) hd).1
        have h5 : ds.length = q.n := by have := h3.1; rw [List.length_map] at this; omega
        refine ⟨?_, h5⟩
        rw [← h5] at h3
        obtain ⟨a2, c2, e2, h6⟩ := BRow.own h3 h4.lt h4.len
        cases e2
        exact h6
      · rw [HB.out.2.2.1, HIe.out]
end Go.Proofs.Ytjkoambfecmglaa
