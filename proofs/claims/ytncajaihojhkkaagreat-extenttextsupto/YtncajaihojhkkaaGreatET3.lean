import Derived.Test.YtncajaihojhkkaaGreatET2
namespace Go.Proofs.YtncajaihojhkkaaGreat.I
open Go.RowKit Go.Sort Go.Lib Go.Shelf
attribute [local go_sem] Oper.semAt_some
set_option linter.unusedVariables false
set_option linter.unusedSimpArgs false
set_option maxRecDepth 100000

theorem infoI64 : (Tryz.prog.info? 2).map (fun i => (i.zero, i.size, i.bytes)) = some (some (.int .i64 0), 1, 8) := by kernel_rfl
/-- a rising list with one more number -/
def putL : List Int → Int → List Int
  | [], x => [x]
  | y :: t, x => if x ≤ y then (if x < y then x :: y :: t else y :: t) else y :: putL t x
theorem putL_length : ∀ (l : List Int) (x : Int), (putL l x).length ≤ l.length + 1
  | [], x => by simp [putL]
  | y :: t, x => by
    have := putL_length t x
    unfold putL
    split
    · split <;> simp
    · simp; omega
/-- a list of numbers in a value -/
def IL (w : World) (v : Value) (l : List Int) : Prop := ∃ ao cap, v = .slice ao l.length cap ∧ ∀ k x, l[k]? = some x → ∃ b off, ao = some ⟨b, off, none⟩ ∧ w.cell? ⟨b, off + k, none⟩ = some (.int .i64 x)
theorem IL.later {w w' : World} {v : Value} {l : List Int} (h : IL w v l) (hb : Below w.heap.size w w') : IL w' v l := by
  obtain ⟨ao, cap, e, h1⟩ := h
  exact ⟨ao, cap, e, fun k x hk => by obtain ⟨b, off, e2, h2⟩ := h1 k x hk; exact ⟨b, off, e2, cell_later hb h2⟩⟩
theorem il_row {w : World} {B : Nat} {v : Value} {L : List Int} (h : w.ownsRow B 2 1 v L.length (L.map (fun x => .int .i64 x))) : IL w v L := by
  rcases h.2 with ⟨hv, hn⟩ | ⟨g, cap, cur, hv, _⟩
  · exact ⟨none, 0, by rw [hn]; exact hv, fun k p hk => by have := (List.getElem?_eq_some_iff.1 hk).1; omega⟩
  · refine ⟨some ⟨g, 0, none⟩, cap, hv, fun k x hk => ⟨g, 0, rfl, ?_⟩⟩
    have c1 := h.cells (g := g) (by rw [hv]; rfl) k (.int .i64 x) (by rw [List.getElem?_map, hk]; rfl)
    rwa [WideShapes.add_plain] at c1
theorem il_nil (w : World) : IL w (.slice none 0 0) [] := ⟨none, 0, rfl, fun k x hk => by simp at hk⟩
theorem newsI (W : World) (y : Int) : ∀ j u, [Value.int .i64 y][j]? = some u → (W.alloc (.cells #[.int .i64 y] 2)).cell? ((⟨W.heap.size, 0, none⟩ : Addr).add j) = some u :=
  World.news_of_block (cs := #[.int .i64 y]) (t := 2) (fr := (0, 0)) (heap_alloc_new W _)
set_option maxHeartbeats 8000000 in
theorem put_any {w : World} {v1 : Value} {l : List Int} (h1 : IL w v1 l) (hl : l.length ≤ 1099511627776) (x : Int) :
    Calls Tryz.prog 37 #[v1, .int .i64 x] w fun e w' => ∃ v, e = .returned v ∧ IL w' v (putL l x) ∧ Below w.heap.size w w' := by
  obtain ⟨ao, ca, rfl, hA⟩ := h1
  obtain ⟨i0, hi, hz0, hz1, hz2⟩ := info_parts infoI64
  have HA : Hid (∀ k x, l[k]? = some x → ∃ b off, ao = some ⟨b, off, none⟩ ∧ w.cell? ⟨b, off + k, none⟩ = some (.int .i64 x)) := hA
  obtain ⟨n, hn⟩ : ∃ n, n = l.length := ⟨_, rfl⟩
  rw [← hn] at hl ⊢
  have HL : Hid (n = l.length) := hn
  clear hn hA
  go_enter Tryz.func37, Tryz.ntmps37
  go_wp2
  go_loopw [5, 6, 7] (fun o b i wr => ∃ (k : Nat) (O : List Int) (bb : Bool), k ≤ n ∧ i = .int .i64 k ∧ b = .bool bb ∧ O.length ≤ 2 * k ∧ Hid (wr.ownsRow w.heap.size 2 1 o O.length (O.map (fun x => .int .i64 x))) ∧ Hid (putL l x = O ++ (if bb then l.drop k else putL (l.drop k) x)) ∧ Hid (Below w.heap.size w wr)) (fun _ _ i _ => n - (intOf i).toNat)
  case atStart => exact ⟨0, [], false, Nat.zero_le _, rfl, rfl, by simp, World.ownsRow_nil _ _ _ _, by show _ = _; simp, Below.refl _ _⟩
  case round =>
    obtain ⟨k, O, bb, hk, rfl, rfl, hO, HO, HP, HBk⟩ := hrel
    have hbw := HBk.out.size
    by_cases hlt : k < n
    · obtain ⟨y, hy⟩ : ∃ y, l[k]? = some y := ⟨_, List.getElem?_eq_getElem (by have := HL.out; omega)⟩
      obtain ⟨b, off, rfl, d0⟩ := HA.out k y hy
      have c0 := cell_later HBk.out d0
      have hbl : b < w.heap.size := World.block_lt_of_cell? _ _ d0
      have hkz : (k : Int) < (n : Int) := by omega
      have HD : Hid (l.drop k = y :: l.drop (k + 1)) := by
        show _ = _
        rw [List.drop_eq_getElem_cons (by have := HL.out; omega)]
        have := List.getElem?_eq_some_iff.1 hy
        rw [this.2]
      have D0 : Hid (w.cell? ⟨b, off + k, none⟩ = some (.int .i64 y)) := d0
      clear d0 hy
      cases bb with
      | true =>
        simp only [if_true] at HP
        obtain ⟨ao2, cp, rfl⟩ := owns_form HO.out
        go_wp2_with (at_builtin; refine wpList_append_own _ rfl (.tmp 34) (.tmp 39) 67 rfl w.heap.size 2 i0 _ 1 8 Tryz.underlying67 hi hz0 hz1 hz2 rfl (by decide) _ (O).length ((O).map (fun x => .int .i64 x)) rfl ((HO.out).alloc _) ⟨wr.heap.size, 0, none⟩ 1 1 [.int .i64 y] rfl rfl (newsI wr y) (by simp [Value.oneCell']) (by first | (unfold maxLen; omega) | (simp; unfold maxLen; omega)) (by first | omega | (simp; omega)) (by first | (simp; omega) | omega) ?_; intro v1 w1 ho1 hg1 _)
        obtain ⟨ao3, cp3, rfl⟩ := owns_form ho1
        have H2 : Hid (w1.ownsRow w.heap.size 2 1 (.slice ao3 (O.length + 1) cp3) (O ++ [y]).length ((O ++ [y]).map (fun x => .int .i64 x))) := by
          show World.ownsRow _ _ _ _ _ _ _
          simpa using ho1
        have hb1 : Hid (Below w.heap.size w w1) := (HBk.out.alloc HBk.out.size _).grown hg1 (by simp; omega) (fun b' hb' => (HO.out.lt b' hb').1)
        clear ho1 hg1
        go_wp2
        go_roundw
        case rel => exact ⟨k + 1, O ++ [y], true, by omega, by go_num, rfl, by simp; omega, H2.out, by show _ = _; rw [HP.out, HD.out]; simp, hb1⟩
        case measure => simp [intOf]; omega
      | false =>
        simp only [Bool.false_eq_true, if_false] at HP
        by_cases g1 : x ≤ y
        · have d1 : decide (x ≤ y) = true := decide_eq_true g1
          by_cases g2 : x < y
          · have d2 : decide (x < y) = true := decide_eq_true g2
            have HD2 : Hid (putL (l.drop k) x = x :: y :: l.drop (k + 1)) := by show _ = _; rw [HD.out]; simp [putL, g1, g2]
            have K1 : True := trivial
            obtain ⟨ao2, cp, rfl⟩ := owns_form HO.out
            have HO2 : Hid (wr.ownsRow w.heap.size 2 1 (.slice ao2 O.length cp) O.length (O.map (fun x => .int .i64 x))) := HO.out
            go_wp2_with (first | (at_builtin; have hk := K1; clear hk K1; refine wpList_append_own _ rfl (.tmp 30) (.tmp 32) 67 rfl w.heap.size 2 i0 _ 1 8 Tryz.underlying67 hi hz0 hz1 hz2 rfl (by decide) _ (O).length ((O).map (fun x => .int .i64 x)) rfl ((HO.out).alloc _) ⟨wr.heap.size, 0, none⟩ 1 1 [.int .i64 x] rfl rfl (newsI wr x) (by simp [Value.oneCell']) (by first | (unfold maxLen; omega) | (simp; unfold maxLen; omega)) (by first | omega | (simp; omega)) (by first | (simp; omega) | omega) ?_; intro v1 w1 ho1 hg1 _; have h1s := hg1.size; have hb1 : Below w.heap.size w w1 := (HBk.out.alloc HBk.out.size _).grown hg1 (by simp; omega) (fun q hq => (HO2.out.lt q hq).1); have hbz := hb1.size; have c1 := cell_later hb1 D0.out; clear hg1; have ho2 : w1.ownsRow w.heap.size 2 1 v1 (O ++ [x]).length ((O ++ [x]).map (fun x => .int .i64 x)) := (by simpa using ho1)) | (at_builtin; refine wpList_append_own _ rfl (.tmp 34) (.tmp 39) 67 rfl w.heap.size 2 i0 _ 1 8 Tryz.underlying67 hi hz0 hz1 hz2 rfl (by decide) _ (O ++ [x]).length ((O ++ [x]).map (fun x => .int .i64 x)) rfl ((ho2).alloc _) ⟨w1.heap.size, 0, none⟩ 1 1 [.int .i64 y] rfl rfl (newsI w1 y) (by simp [Value.oneCell']) (by first | (unfold maxLen; omega) | (simp; unfold maxLen; omega)) (by first | omega | (simp; omega)) (by first | (simp; omega) | omega) ?_; intro v2 w2 ho3 hg2 _))
            obtain ⟨ao3, cp3, rfl⟩ := owns_form ho3
            have H2 : Hid (w2.ownsRow w.heap.size 2 1 (.slice ao3 ((O ++ [x]).length + 1) cp3) (O ++ [x] ++ [y]).length ((O ++ [x] ++ [y]).map (fun x => .int .i64 x))) := by
              show World.ownsRow _ _ _ _ _ _ _
              simpa using ho3
            have hb2 : Hid (Below w.heap.size w w2) := (hb1.alloc hb1.size _).grown hg2 (by simp; omega) (fun b' hb' => (ho2.lt b' hb').1)
            clear ho1 ho2 ho3 hg2 hb1
            go_wp2
            go_roundw
            case rel => exact ⟨k + 1, O ++ [x] ++ [y], true, by omega, by go_num, rfl, by simp; omega, H2.out, by show _ = _; rw [HP.out, HD2.out]; simp, hb2⟩
            case measure => simp [intOf]; omega
          · have d2 : decide (x < y) = false := decide_eq_false g2
            have HD2 : Hid (putL (l.drop k) x = y :: l.drop (k + 1)) := by show _ = _; rw [HD.out]; simp [putL, g1, g2]
            obtain ⟨ao2, cp, rfl⟩ := owns_form HO.out
            go_wp2_with (at_builtin; refine wpList_append_own _ rfl (.tmp 34) (.tmp 39) 67 rfl w.heap.size 2 i0 _ 1 8 Tryz.underlying67 hi hz0 hz1 hz2 rfl (by decide) _ (O).length ((O).map (fun x => .int .i64 x)) rfl ((HO.out).alloc _) ⟨wr.heap.size, 0, none⟩ 1 1 [.int .i64 y] rfl rfl (newsI wr y) (by simp [Value.oneCell']) (by first | (unfold maxLen; omega) | (simp; unfold maxLen; omega)) (by first | omega | (simp; omega)) (by first | (simp; omega) | omega) ?_; intro v1 w1 ho1 hg1 _)
            obtain ⟨ao3, cp3, rfl⟩ := owns_form ho1
            have H2 : Hid (w1.ownsRow w.heap.size 2 1 (.slice ao3 (O.length + 1) cp3) (O ++ [y]).length ((O ++ [y]).map (fun x => .int .i64 x))) := by
              show World.ownsRow _ _ _ _ _ _ _
              simpa using ho1
            have hb1 : Hid (Below w.heap.size w w1) := (HBk.out.alloc HBk.out.size _).grown hg1 (by simp; omega) (fun b' hb' => (HO.out.lt b' hb').1)
            clear ho1 hg1
            go_wp2
            go_roundw
            case rel => exact ⟨k + 1, O ++ [y], true, by omega, by go_num, rfl, by simp; omega, H2.out, by show _ = _; rw [HP.out, HD2.out]; simp, hb1⟩
            case measure => simp [intOf]; omega
        · have d1 : decide (x ≤ y) = false := decide_eq_false g1
          have HD2 : Hid (putL (l.drop k) x = y :: putL (l.drop (k + 1)) x) := by show _ = _; rw [HD.out]; simp [putL, g1]
          obtain ⟨ao2, cp, rfl⟩ := owns_form HO.out
          go_wp2_with (at_builtin; refine wpList_append_own _ rfl (.tmp 34) (.tmp 39) 67 rfl w.heap.size 2 i0 _ 1 8 Tryz.underlying67 hi hz0 hz1 hz2 rfl (by decide) _ (O).length ((O).map (fun x => .int .i64 x)) rfl ((HO.out).alloc _) ⟨wr.heap.size, 0, none⟩ 1 1 [.int .i64 y] rfl rfl (newsI wr y) (by simp [Value.oneCell']) (by first | (unfold maxLen; omega) | (simp; unfold maxLen; omega)) (by first | omega | (simp; omega)) (by first | (simp; omega) | omega) ?_; intro v1 w1 ho1 hg1 _)
          obtain ⟨ao3, cp3, rfl⟩ := owns_form ho1
          have H2 : Hid (w1.ownsRow w.heap.size 2 1 (.slice ao3 (O.length + 1) cp3) (O ++ [y]).length ((O ++ [y]).map (fun x => .int .i64 x))) := by
            show World.ownsRow _ _ _ _ _ _ _
            simpa using ho1
          have hb1 : Hid (Below w.heap.size w w1) := (HBk.out.alloc HBk.out.size _).grown hg1 (by simp; omega) (fun b' hb' => (HO.out.lt b' hb').1)
          clear ho1 hg1
          go_wp2
          go_roundw
          case rel => exact ⟨k + 1, O ++ [y], false, by omega, by go_num, rfl, by simp; omega, H2.out, by show _ = _; rw [HP.out, HD2.out]; simp, hb1⟩
          case measure => simp [intOf]; omega
    · have e : k = n := by omega
      subst e
      have HDn : Hid (l.drop k = []) := by show _ = _; rw [HL.out]; simp
      rw [HDn.out] at HP
      obtain ⟨ao2, cp, rfl⟩ := owns_form HO.out
      cases bb with
      | true =>
        simp only [if_true, List.append_nil] at HP
        go_wp2
        go_ret
        exact ⟨_, rfl, by rw [HP.out]; exact il_row HO.out, HBk.out⟩
      | false =>
        simp only [Bool.false_eq_true, if_false, putL] at HP
        go_wp2_with (at_builtin; refine wpList_append_own _ rfl (.tmp 43) (.tmp 45) 67 rfl w.heap.size 2 i0 _ 1 8 Tryz.underlying67 hi hz0 hz1 hz2 rfl (by decide) _ (O).length ((O).map (fun x => .int .i64 x)) rfl ((HO.out).alloc _) ⟨wr.heap.size, 0, none⟩ 1 1 [.int .i64 x] rfl rfl (newsI wr x) (by simp [Value.oneCell']) (by first | (unfold maxLen; omega) | (simp; unfold maxLen; omega)) (by first | omega | (simp; omega)) (by first | (simp; omega) | omega) ?_; intro v1 w1 ho1 hg1 _)
        have hb1 : Hid (Below w.heap.size w w1) := (HBk.out.alloc HBk.out.size _).grown hg1 (by simp; omega) (fun b' hb' => (HO.out.lt b' hb').1)
        have H2 : Hid (IL w1 v1 (putL l x)) := by
          show IL _ _ _
          rw [HP.out]
          exact il_row (B := w.heap.size) (by simpa using ho1)
        clear ho1 hg1
        go_wp2
        go_ret
        exact ⟨_, rfl, H2.out, hb1.out⟩
end Go.Proofs.YtncajaihojhkkaaGreat.I
