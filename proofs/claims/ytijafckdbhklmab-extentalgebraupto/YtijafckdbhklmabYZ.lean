import Derived.Test.YtijafckdbhklmabYZa
namespace Go.Proofs.Ytijafckdbhklmab.B
open Go.RowKit Go.Sort Go.Lib Go.Shelf
attribute [local go_sem] Oper.semAt_some
set_option linter.unusedVariables false
set_option linter.unusedSimpArgs false
set_option maxRecDepth 100000

set_option maxHeartbeats 8000000 in
theorem lawAlgebra_any {w : World} {va vb vc : Value} {la lb lc : List (Int × Int)} (gA : ArgS w va la) (gB : ArgS w vb lb) (gC : ArgS w vc lc) (na : la.length ≤ 1048576) (nb : lb.length ≤ 1048576) (nc : lc.length ≤ 1048576) :
    Calls Try.prog 7 #[va, vb, vc] w fun e w' => e = .returned (.bool true) ∧ Below w.heap.size w w' := by
  have sA := gA.sl (by omega)
  have sB := gB.sl (by omega)
  have sC := gC.sl (by omega)
  have hw : Below w.heap.size w w := Below.refl _ _
  clear gB gC nb nc
  go_enter Try.func7, Try.ntmps7
  go_big_wp2_with (first | (go_at_call 26; fail) | (go_at_call 27; fail) | (go_at_call 28; fail) | (go_at_call 22; fail) | (go_at_call 24; fail) | (go_at_call 21; fail) | (go_at_call 11; fail))
  refine (union_any sA sB).mono ?_
  rintro e w1 ⟨v1, L1, rfl, n1, s1, b1⟩
  replace sA := sA.later b1
  replace sB := sB.later b1
  replace sC := sC.later b1
  replace gA := gA.later b1
  replace hw := hw.trans (b1.mono hw.size)
  clear b1
  go_big_wp2_with (first | (go_at_call 26; fail) | (go_at_call 27; fail) | (go_at_call 28; fail) | (go_at_call 22; fail) | (go_at_call 24; fail) | (go_at_call 21; fail) | (go_at_call 11; fail))
  refine (sum_ex s1).mono ?_
  rintro e w2 ⟨x2, rfl, hx2, b2⟩
  replace sA := sA.later b2
  replace sB := sB.later b2
  replace sC := sC.later b2
  replace s1 := s1.later b2
  replace gA := gA.later b2
  replace hw := hw.trans (b2.mono hw.size)
  clear b2
  clear s1
  go_big_wp2_with (first | (go_at_call 26; fail) | (go_at_call 27; fail) | (go_at_call 28; fail) | (go_at_call 22; fail) | (go_at_call 24; fail) | (go_at_call 21; fail) | (go_at_call 11; fail))
  refine (meet_any sA sB).mono ?_
  rintro e w3 ⟨v3, L3, rfl, n3, s3, b3⟩
  replace sA := sA.later b3
  replace sB := sB.later b3
  replace sC := sC.later b3
  replace gA := gA.later b3
  replace hw := hw.trans (b3.mono hw.size)
  clear b3
  go_big_wp2_with (first | (go_at_call 26; fail) | (go_at_call 27; fail) | (go_at_call 28; fail) | (go_at_call 22; fail) | (go_at_call 24; fail) | (go_at_call 21; fail) | (go_at_call 11; fail))
  refine (sum_ex s3).mono ?_
  rintro e w4 ⟨x4, rfl, hx4, b4⟩
  replace sA := sA.later b4
  replace sB := sB.later b4
  replace sC := sC.later b4
  replace s3 := s3.later b4
  replace gA := gA.later b4
  replace hw := hw.trans (b4.mono hw.size)
  clear b4
  clear s3
  have r2 : 0 ≤ x2 ∧ x2 ≤ 1099511627776 := by rw [hx2.out]; exact cnt_bound _ 0 1099511627776
  have r4 : 0 ≤ x4 ∧ x4 ≤ 1099511627776 := by rw [hx4.out]; exact cnt_bound _ 0 1099511627776
  obtain ⟨sm, hsm⟩ : ∃ sm, sm = x2 + x4 := ⟨_, rfl⟩
  have HSM : Hid (sm = x2 + x4) := hsm
  have wa : IntKind.i64.wrap (x2 + x4) = sm := by rw [IntKind.wrap_i64]; omega
  have rs : 0 ≤ sm ∧ sm ≤ 2199023255552 := by omega
  clear hsm r2 r4
  go_big_wp2_with (first | (go_at_call 26; fail) | (go_at_call 27; fail) | (go_at_call 28; fail) | (go_at_call 22; fail) | (go_at_call 24; fail) | (go_at_call 21; fail) | (go_at_call 11; fail))
  refine (sum_ex sA).mono ?_
  rintro e w5 ⟨x5, rfl, hx5, b5⟩
  replace sA := sA.later b5
  replace sB := sB.later b5
  replace sC := sC.later b5
  replace gA := gA.later b5
  replace hw := hw.trans (b5.mono hw.size)
  clear b5
  go_big_wp2_with (first | (go_at_call 26; fail) | (go_at_call 27; fail) | (go_at_call 28; fail) | (go_at_call 22; fail) | (go_at_call 24; fail) | (go_at_call 21; fail) | (go_at_call 11; fail))
  refine (sum_ex sB).mono ?_
  rintro e w6 ⟨x6, rfl, hx6, b6⟩
  replace sA := sA.later b6
  replace sB := sB.later b6
  replace sC := sC.later b6
  replace gA := gA.later b6
  replace hw := hw.trans (b6.mono hw.size)
  clear b6
  have E : sm = x5 + x6 := by
    rw [HSM.out, hx2.out, hx4.out, hx5.out, hx6.out, cnt_norm n1 (fun i => inB la i || inB lb i) (fun i => by rw [Bool.or_eq_true, inB_iff, inB_iff]), cnt_norm n3 (fun i => inB la i && inB lb i) (fun i => by rw [Bool.and_eq_true, inB_iff, inB_iff])]
    exact cnt_two (inB la) (inB lb) 0 1099511627776
  have wb : IntKind.i64.wrap (x5 + x6) = sm := by rw [IntKind.wrap_i64]; omega
  have ds : (sm != sm) = false := by simp
  clear E HSM rs hx2 hx4 hx5 hx6 n1 n3
  go_big_wp2_with (first | (go_at_call 26; fail) | (go_at_call 27; fail) | (go_at_call 28; fail) | (go_at_call 22; fail) | (go_at_call 24; fail) | (go_at_call 21; fail) | (go_at_call 11; fail))
  refine (sum_ex sA).mono ?_
  rintro e w7 ⟨x7, rfl, hx7, b7⟩
  replace sA := sA.later b7
  replace sB := sB.later b7
  replace sC := sC.later b7
  replace gA := gA.later b7
  replace hw := hw.trans (b7.mono hw.size)
  clear b7
  have d7 : decide (x7 < 0) = false := decide_eq_false (by rw [hx7.out]; have := (cnt_bound (inB la) 0 1099511627776).1; omega)
  go_big_wp2_with (first | (go_at_call 26; fail) | (go_at_call 27; fail) | (go_at_call 28; fail) | (go_at_call 22; fail) | (go_at_call 24; fail) | (go_at_call 21; fail) | (go_at_call 11; fail))
  refine (sum_ex sA).mono ?_
  rintro e w8 ⟨x8, rfl, hx8, b8⟩
  replace sA := sA.later b8
  replace sB := sB.later b8
  replace sC := sC.later b8
  replace gA := gA.later b8
  replace hw := hw.trans (b8.mono hw.size)
  clear b8
  have d8 : decide (1099511627776 < x8) = false := decide_eq_false (by rw [hx8.out]; have := (cnt_bound (inB la) 0 1099511627776).2; omega)
  clear hx7 hx8
  go_big_wp2_with (first | (go_at_call 26; fail) | (go_at_call 27; fail) | (go_at_call 28; fail) | (go_at_call 22; fail) | (go_at_call 24; fail) | (go_at_call 21; fail) | (go_at_call 11; fail))
  refine (minus_any sA sB).mono ?_
  rintro e w9 ⟨v9, L9, rfl, n9, s9, b9⟩
  replace sA := sA.later b9
  replace sB := sB.later b9
  replace sC := sC.later b9
  replace gA := gA.later b9
  replace hw := hw.trans (b9.mono hw.size)
  clear b9
  go_big_wp2_with (first | (go_at_call 26; fail) | (go_at_call 27; fail) | (go_at_call 28; fail) | (go_at_call 22; fail) | (go_at_call 24; fail) | (go_at_call 21; fail) | (go_at_call 11; fail))
  refine (meet_any sA sB).mono ?_
  rintro e w10 ⟨v10, L10, rfl, n10, s10, b10⟩
  replace sA := sA.later b10
  replace sB := sB.later b10
  replace sC := sC.later b10
  replace s9 := s9.later b10
  replace gA := gA.later b10
  replace hw := hw.trans (b10.mono hw.size)
  clear b10
  go_big_wp2_with (first | (go_at_call 26; fail) | (go_at_call 27; fail) | (go_at_call 28; fail) | (go_at_call 22; fail) | (go_at_call 24; fail) | (go_at_call 21; fail) | (go_at_call 11; fail))
  refine (union_any s9 s10).mono ?_
  rintro e w11 ⟨v11, L11, rfl, n11, s11, b11⟩
  replace sA := sA.later b11
  replace sB := sB.later b11
  replace sC := sC.later b11
  replace s9 := s9.later b11
  replace s10 := s10.later b11
  replace gA := gA.later b11
  replace hw := hw.trans (b11.mono hw.size)
  clear b11
  go_big_wp2_with (first | (go_at_call 26; fail) | (go_at_call 27; fail) | (go_at_call 28; fail) | (go_at_call 22; fail) | (go_at_call 24; fail) | (go_at_call 21; fail) | (go_at_call 11; fail))
  refine (normal_sl sA).mono ?_
  rintro e w12 ⟨v12, L12, rfl, n12, s12, b12⟩
  replace sA := sA.later b12
  replace sB := sB.later b12
  replace sC := sC.later b12
  replace s9 := s9.later b12
  replace s10 := s10.later b12
  replace s11 := s11.later b12
  replace gA := gA.later b12
  replace hw := hw.trans (b12.mono hw.size)
  clear b12
  obtain rfl : L11 = L12 := norm_unique (norm_op (f := Or) n9 n10 n11) n12 (fun i _ _ => by by_cases hx : inL la i <;> by_cases hy : inL lb i <;> by_cases hz : inL lc i <;> simp [hx, hy, hz])
  go_big_wp2_with (first | (go_at_call 26; fail) | (go_at_call 27; fail) | (go_at_call 28; fail) | (go_at_call 22; fail) | (go_at_call 24; fail) | (go_at_call 21; fail) | (go_at_call 11; fail))
  refine (ranges_same s11 s12).mono ?_
  rintro e w13 ⟨rfl, b13⟩
  replace sA := sA.later b13
  replace sB := sB.later b13
  replace sC := sC.later b13
  replace s9 := s9.later b13
  replace s10 := s10.later b13
  replace s11 := s11.later b13
  replace s12 := s12.later b13
  replace gA := gA.later b13
  replace hw := hw.trans (b13.mono hw.size)
  clear b13
  clear n11 n12
  clear s11 s12
  go_big_wp2_with (first | (go_at_call 26; fail) | (go_at_call 27; fail) | (go_at_call 28; fail) | (go_at_call 22; fail) | (go_at_call 24; fail) | (go_at_call 21; fail) | (go_at_call 11; fail))
  refine (meet_any s9 s10).mono ?_
  rintro e w14 ⟨v14, L14, rfl, n14, s14, b14⟩
  replace sA := sA.later b14
  replace sB := sB.later b14
  replace sC := sC.later b14
  replace s9 := s9.later b14
  replace s10 := s10.later b14
  replace gA := gA.later b14
  replace hw := hw.trans (b14.mono hw.size)
  clear b14
  obtain rfl : L14 = [] := norm_empty (norm_op (f := And) n9 n10 n14) (fun i _ _ => by by_cases hx : inL la i <;> by_cases hy : inL lb i <;> by_cases hz : inL lc i <;> simp [hx, hy, hz])
  obtain ⟨ao14, c14, rfl, _, _⟩ := s14
  clear n14
  simp only [List.length_nil]
  go_big_wp2_with (first | (go_at_call 26; fail) | (go_at_call 27; fail) | (go_at_call 28; fail) | (go_at_call 22; fail) | (go_at_call 24; fail) | (go_at_call 21; fail) | (go_at_call 11; fail))
  refine (minus_any sA sA).mono ?_
  rintro e w15 ⟨v15, L15, rfl, n15, s15, b15⟩
  replace sA := sA.later b15
  replace sB := sB.later b15
  replace sC := sC.later b15
  replace s9 := s9.later b15
  replace s10 := s10.later b15
  replace gA := gA.later b15
  replace hw := hw.trans (b15.mono hw.size)
  clear b15
  obtain rfl : L15 = [] := norm_empty n15 (fun i _ _ => by by_cases hx : inL la i <;> by_cases hy : inL lb i <;> by_cases hz : inL lc i <;> simp [hx, hy, hz])
  obtain ⟨ao15, c15, rfl, _, _⟩ := s15
  clear n15
  simp only [List.length_nil]
  go_big_wp2_with (first | (go_at_call 26; fail) | (go_at_call 27; fail) | (go_at_call 28; fail) | (go_at_call 22; fail) | (go_at_call 24; fail) | (go_at_call 21; fail) | (go_at_call 11; fail))
  refine (union_any sA sB).mono ?_
  rintro e w16 ⟨v16, L16, rfl, n16, s16, b16⟩
  replace sA := sA.later b16
  replace sB := sB.later b16
  replace sC := sC.later b16
  replace s9 := s9.later b16
  replace s10 := s10.later b16
  replace gA := gA.later b16
  replace hw := hw.trans (b16.mono hw.size)
  clear b16
  go_big_wp2_with (first | (go_at_call 26; fail) | (go_at_call 27; fail) | (go_at_call 28; fail) | (go_at_call 22; fail) | (go_at_call 24; fail) | (go_at_call 21; fail) | (go_at_call 11; fail))
  refine (union_any sB sA).mono ?_
  rintro e w17 ⟨v17, L17, rfl, n17, s17, b17⟩
  replace sA := sA.later b17
  replace sB := sB.later b17
  replace sC := sC.later b17
  replace s9 := s9.later b17
  replace s10 := s10.later b17
  replace s16 := s16.later b17
  replace gA := gA.later b17
  replace hw := hw.trans (b17.mono hw.size)
  clear b17
  obtain rfl : L16 = L17 := norm_unique n16 n17 (fun i _ _ => by by_cases hx : inL la i <;> by_cases hy : inL lb i <;> by_cases hz : inL lc i <;> simp [hx, hy, hz])
  go_big_wp2_with (first | (go_at_call 26; fail) | (go_at_call 27; fail) | (go_at_call 28; fail) | (go_at_call 22; fail) | (go_at_call 24; fail) | (go_at_call 21; fail) | (go_at_call 11; fail))
  refine (ranges_same s16 s17).mono ?_
  rintro e w18 ⟨rfl, b18⟩
  replace sA := sA.later b18
  replace sB := sB.later b18
  replace sC := sC.later b18
  replace s9 := s9.later b18
  replace s10 := s10.later b18
  replace s16 := s16.later b18
  replace s17 := s17.later b18
  replace gA := gA.later b18
  replace hw := hw.trans (b18.mono hw.size)
  clear b18
  clear n16 n17
  clear s16 s17
  go_big_wp2_with (first | (go_at_call 26; fail) | (go_at_call 27; fail) | (go_at_call 28; fail) | (go_at_call 22; fail) | (go_at_call 24; fail) | (go_at_call 21; fail) | (go_at_call 11; fail))
  refine (meet_any sB sA).mono ?_
  rintro e w19 ⟨v19, L19, rfl, n19, s19, b19⟩
  replace sA := sA.later b19
  replace sB := sB.later b19
  replace sC := sC.later b19
  replace s9 := s9.later b19
  replace s10 := s10.later b19
  replace gA := gA.later b19
  replace hw := hw.trans (b19.mono hw.size)
  clear b19
  obtain rfl : L10 = L19 := norm_unique n10 n19 (fun i _ _ => by by_cases hx : inL la i <;> by_cases hy : inL lb i <;> by_cases hz : inL lc i <;> simp [hx, hy, hz])
  go_big_wp2_with (first | (go_at_call 26; fail) | (go_at_call 27; fail) | (go_at_call 28; fail) | (go_at_call 22; fail) | (go_at_call 24; fail) | (go_at_call 21; fail) | (go_at_call 11; fail))
  refine (ranges_same s10 s19).mono ?_
  rintro e w20 ⟨rfl, b20⟩
  replace sA := sA.later b20
  replace sB := sB.later b20
  replace sC := sC.later b20
  replace s9 := s9.later b20
  replace s10 := s10.later b20
  replace s19 := s19.later b20
  replace gA := gA.later b20
  replace hw := hw.trans (b20.mono hw.size)
  clear b20
  clear n19
  clear s19
  have K1 : True := trivial
  go_big_wp2_with (first | (go_at_call 26; fail) | (go_at_call 27; fail) | (go_at_call 28; fail) | (go_at_call 22; fail) | (go_at_call 24; fail) | (go_at_call 21; fail) | (go_at_call 11; fail))
  refine (normal_sl sA).mono ?_
  rintro e w21 ⟨v21, L21, rfl, n21, s21, b21⟩
  replace sA := sA.later b21
  replace sB := sB.later b21
  replace sC := sC.later b21
  replace s9 := s9.later b21
  replace s10 := s10.later b21
  replace gA := gA.later b21
  replace hw := hw.trans (b21.mono hw.size)
  clear b21
  go_big_wp2_with (first | (go_at_call 26; fail) | (go_at_call 27; fail) | (go_at_call 28; fail) | (go_at_call 22; fail) | (go_at_call 24; fail) | (go_at_call 21; fail) | (go_at_call 11; fail))
  refine (normal_sl s21).mono ?_
  rintro e w22 ⟨v22, L22, rfl, n22, s22, b22⟩
  replace sA := sA.later b22
  replace sB := sB.later b22
  replace sC := sC.later b22
  replace s9 := s9.later b22
  replace s10 := s10.later b22
  replace s21 := s21.later b22
  replace gA := gA.later b22
  replace hw := hw.trans (b22.mono hw.size)
  clear b22
  clear s21
  go_big_wp2_with (first | (go_at_call 26; fail) | (go_at_call 27; fail) | (go_at_call 28; fail) | (go_at_call 22; fail) | (go_at_call 24; fail) | (go_at_call 21; fail) | (go_at_call 11; fail) | (at_builtin; have hk := K1; clear hk K1; refine wpList_append_sg rfl (.const (.slice none 0 0)) (.tmp 81) rfl w22.heap.size (.slice none 0 0) 0 [] rfl (World.ownsRow_nil _ _ _ _) va la rfl gA (by omega) (Nat.le_refl _) ?_; intro v23 w23 o23 g23) | (at_builtin; have b23 : Below w22.heap.size w22 w23 := (Below.refl _ _).grown g23 (Nat.le_refl _) (fun k e => by cases e); refine wpList_append_sg rfl (.tmp 82) (.tmp 83) rfl w22.heap.size v23 _ _ rfl o23 va la rfl (gA.later b23) (by omega) b23.size ?_; intro v24 w24 o24 g24; have b24 : Below w22.heap.size w22 w24 := b23.grown g24 b23.size (fun k e => (o23.lt k e).1)))
  have s24 : SL w24 v24 (la ++ la) := sl_row (B := w22.heap.size) (by simpa [pcells_append] using o24) (by simp; omega)
  clear o23 o24 g23 g24
  replace sA := sA.later b24
  replace sB := sB.later b24
  replace sC := sC.later b24
  replace s9 := s9.later b24
  replace s10 := s10.later b24
  replace s22 := s22.later b24
  replace gA := gA.later b24
  replace hw := hw.trans (b24.mono hw.size)
  clear b23 b24
  refine (normal_sl s24).mono ?_
  rintro e w25 ⟨v25, L25, rfl, n25, s25, b25⟩
  replace sA := sA.later b25
  replace sB := sB.later b25
  replace sC := sC.later b25
  replace s9 := s9.later b25
  replace s10 := s10.later b25
  replace s22 := s22.later b25
  replace s24 := s24.later b25
  replace gA := gA.later b25
  replace hw := hw.trans (b25.mono hw.size)
  clear b25
  clear s24
  obtain rfl : L22 = L25 := norm_unique (norm_1 n21 n22) n25 (fun i _ _ => by rw [inL_append]; by_cases hx : inL la i <;> simp [hx])
  go_big_wp2_with (first | (go_at_call 26; fail) | (go_at_call 27; fail) | (go_at_call 28; fail) | (go_at_call 22; fail) | (go_at_call 24; fail) | (go_at_call 21; fail) | (go_at_call 11; fail))
  refine (ranges_same s22 s25).mono ?_
  rintro e w26 ⟨rfl, b26⟩
  replace sA := sA.later b26
  replace sB := sB.later b26
  replace sC := sC.later b26
  replace s9 := s9.later b26
  replace s10 := s10.later b26
  replace s22 := s22.later b26
  replace s25 := s25.later b26
  replace gA := gA.later b26
  replace hw := hw.trans (b26.mono hw.size)
  clear b26
  clear n21 n22 n25
  clear s22 s25
  go_big_wp2_with (first | (go_at_call 26; fail) | (go_at_call 27; fail) | (go_at_call 28; fail) | (go_at_call 22; fail) | (go_at_call 24; fail) | (go_at_call 21; fail) | (go_at_call 11; fail))
  refine (union_any sB sC).mono ?_
  rintro e w27 ⟨v27, L27, rfl, n27, s27, b27⟩
  replace sA := sA.later b27
  replace sB := sB.later b27
  replace sC := sC.later b27
  replace s9 := s9.later b27
  replace s10 := s10.later b27
  replace gA := gA.later b27
  replace hw := hw.trans (b27.mono hw.size)
  clear b27
  go_big_wp2_with (first | (go_at_call 26; fail) | (go_at_call 27; fail) | (go_at_call 28; fail) | (go_at_call 22; fail) | (go_at_call 24; fail) | (go_at_call 21; fail) | (go_at_call 11; fail))
  refine (meet_any sA s27).mono ?_
  rintro e w28 ⟨v28, L28, rfl, n28, s28, b28⟩
  replace sA := sA.later b28
  replace sB := sB.later b28
  replace sC := sC.later b28
  replace s9 := s9.later b28
  replace s10 := s10.later b28
  replace s27 := s27.later b28
  replace gA := gA.later b28
  replace hw := hw.trans (b28.mono hw.size)
  clear b28
  clear s27
  go_big_wp2_with (first | (go_at_call 26; fail) | (go_at_call 27; fail) | (go_at_call 28; fail) | (go_at_call 22; fail) | (go_at_call 24; fail) | (go_at_call 21; fail) | (go_at_call 11; fail))
  refine (meet_any sA sC).mono ?_
  rintro e w29 ⟨v29, L29, rfl, n29, s29, b29⟩
  replace sA := sA.later b29
  replace sB := sB.later b29
  replace sC := sC.later b29
  replace s9 := s9.later b29
  replace s10 := s10.later b29
  replace s28 := s28.later b29
  replace gA := gA.later b29
  replace hw := hw.trans (b29.mono hw.size)
  clear b29
  go_big_wp2_with (first | (go_at_call 26; fail) | (go_at_call 27; fail) | (go_at_call 28; fail) | (go_at_call 22; fail) | (go_at_call 24; fail) | (go_at_call 21; fail) | (go_at_call 11; fail))
  refine (union_any s10 s29).mono ?_
  rintro e w30 ⟨v30, L30, rfl, n30, s30, b30⟩
  replace sA := sA.later b30
  replace sB := sB.later b30
  replace sC := sC.later b30
  replace s9 := s9.later b30
  replace s10 := s10.later b30
  replace s28 := s28.later b30
  replace s29 := s29.later b30
  replace gA := gA.later b30
  replace hw := hw.trans (b30.mono hw.size)
  clear b30
  clear s29
  obtain rfl : L28 = L30 := norm_unique (norm_r (f := And) n27 n28) (norm_op (f := Or) n10 n29 n30) (fun i _ _ => by by_cases hx : inL la i <;> by_cases hy : inL lb i <;> by_cases hz : inL lc i <;> simp [hx, hy, hz])
  go_big_wp2_with (first | (go_at_call 26; fail) | (go_at_call 27; fail) | (go_at_call 28; fail) | (go_at_call 22; fail) | (go_at_call 24; fail) | (go_at_call 21; fail) | (go_at_call 11; fail))
  refine (ranges_same s28 s30).mono ?_
  rintro e w31 ⟨rfl, b31⟩
  replace sA := sA.later b31
  replace sB := sB.later b31
  replace sC := sC.later b31
  replace s9 := s9.later b31
  replace s10 := s10.later b31
  replace s28 := s28.later b31
  replace s30 := s30.later b31
  replace gA := gA.later b31
  replace hw := hw.trans (b31.mono hw.size)
  clear b31
  clear n27 n28 n29 n30
  clear s28 s30
  go_big_wp2_with (first | (go_at_call 26; fail) | (go_at_call 27; fail) | (go_at_call 28; fail) | (go_at_call 22; fail) | (go_at_call 24; fail) | (go_at_call 21; fail) | (go_at_call 11; fail))
  refine (minus_any sA sB).mono ?_
  rintro e w32 ⟨v32, L32, rfl, n32, s32, b32⟩
  replace sA := sA.later b32
  replace sB := sB.later b32
  replace sC := sC.later b32
  replace s9 := s9.later b32
  replace s10 := s10.later b32
  replace gA := gA.later b32
  replace hw := hw.trans (b32.mono hw.size)
  clear b32
  go_big_wp2_with (first | (go_at_call 26; fail) | (go_at_call 27; fail) | (go_at_call 28; fail) | (go_at_call 22; fail) | (go_at_call 24; fail) | (go_at_call 21; fail) | (go_at_call 11; fail))
  refine (minus_any s32 sC).mono ?_
  rintro e w33 ⟨v33, L33, rfl, n33, s33, b33⟩
  replace sA := sA.later b33
  replace sB := sB.later b33
  replace sC := sC.later b33
  replace s9 := s9.later b33
  replace s10 := s10.later b33
  replace s32 := s32.later b33
  replace gA := gA.later b33
  replace hw := hw.trans (b33.mono hw.size)
  clear b33
  clear s32
  go_big_wp2_with (first | (go_at_call 26; fail) | (go_at_call 27; fail) | (go_at_call 28; fail) | (go_at_call 22; fail) | (go_at_call 24; fail) | (go_at_call 21; fail) | (go_at_call 11; fail))
  refine (union_any sB sC).mono ?_
  rintro e w34 ⟨v34, L34, rfl, n34, s34, b34⟩
  replace sA := sA.later b34
  replace sB := sB.later b34
  replace sC := sC.later b34
  replace s9 := s9.later b34
  replace s10 := s10.later b34
  replace s33 := s33.later b34
  replace gA := gA.later b34
  replace hw := hw.trans (b34.mono hw.size)
  clear b34
  go_big_wp2_with (first | (go_at_call 26; fail) | (go_at_call 27; fail) | (go_at_call 28; fail) | (go_at_call 22; fail) | (go_at_call 24; fail) | (go_at_call 21; fail) | (go_at_call 11; fail))
  refine (minus_any sA s34).mono ?_
  rintro e w35 ⟨v35, L35, rfl, n35, s35, b35⟩
  replace sA := sA.later b35
  replace sB := sB.later b35
  replace sC := sC.later b35
  replace s9 := s9.later b35
  replace s10 := s10.later b35
  replace s33 := s33.later b35
  replace s34 := s34.later b35
  replace gA := gA.later b35
  replace hw := hw.trans (b35.mono hw.size)
  clear b35
  clear s34
  obtain rfl : L33 = L35 := norm_unique (norm_l (f := fun p q => p ∧ ¬ q) n32 n33) (norm_r (f := fun p q => p ∧ ¬ q) n34 n35) (fun i _ _ => by by_cases hx : inL la i <;> by_cases hy : inL lb i <;> by_cases hz : inL lc i <;> simp [hx, hy, hz])
  go_big_wp2_with (first | (go_at_call 26; fail) | (go_at_call 27; fail) | (go_at_call 28; fail) | (go_at_call 22; fail) | (go_at_call 24; fail) | (go_at_call 21; fail) | (go_at_call 11; fail))
  refine (ranges_same s33 s35).mono ?_
  rintro e w36 ⟨rfl, b36⟩
  replace sA := sA.later b36
  replace sB := sB.later b36
  replace sC := sC.later b36
  replace s9 := s9.later b36
  replace s10 := s10.later b36
  replace s33 := s33.later b36
  replace s35 := s35.later b36
  replace gA := gA.later b36
  replace hw := hw.trans (b36.mono hw.size)
  clear b36
  clear n32 n33 n34 n35
  clear s33 s35
  go_big_wp2_with (first | (go_at_call 26; fail) | (go_at_call 27; fail) | (go_at_call 28; fail) | (go_at_call 22; fail) | (go_at_call 24; fail) | (go_at_call 21; fail) | (go_at_call 11; fail))
  refine (I.alive_any _).mono ?_
  rintro e w37 ⟨rfl, b37⟩
  replace sA := sA.later b37
  replace sB := sB.later b37
  replace sC := sC.later b37
  replace s9 := s9.later b37
  replace s10 := s10.later b37
  replace gA := gA.later b37
  replace hw := hw.trans (b37.mono hw.size)
  clear b37
  go_big_wp2
  go_ret
  exact ⟨rfl, hw⟩
end Go.Proofs.Ytijafckdbhklmab.B
