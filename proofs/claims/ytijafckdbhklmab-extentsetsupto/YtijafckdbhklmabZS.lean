import Derived.Test.YtijafckdbhklmabZJ
namespace Go.Proofs.Ytijafckdbhklmab.B
open Go.RowKit Go.Sort Go.Lib Go.Shelf
attribute [local go_sem] Oper.semAt_some
set_option linter.unusedVariables false
set_option linter.unusedSimpArgs false
set_option maxRecDepth 100000

theorem inL_nil (i : Int) : ¬ inL [] i := by rintro ⟨q, hq, _⟩; cases hq
theorem joined_ex {w : World} {va vb : Value} {la lb : List (Int × Int)} (op : Int) (hop : op = 0 ∨ op = 1 ∨ op = 2) (sA : SL w va la) (sB : SL w vb lb) (na : la.length ≤ 1048576) (nb : lb.length ≤ 1048576) :
    Calls Try.prog 23 #[.int .i64 op, va, vb] w fun e w' => ∃ v L, e = .returned v ∧ Norm L (fun i => ∃ x y, (x = true ↔ inL la i) ∧ (y = true ↔ inL lb i) ∧ wantB op x y = true) ∧ SL w' v L ∧ Below w.heap.size w w' :=
  (joined_ref op hop sA sB na nb).mono fun e w' ⟨v, he, hs, hb⟩ => ⟨v, _, he, segR_norm la lb (wantB op), hs, hb⟩
open Classical in
theorem want_iff (op : Int) (A B : Prop) : (∃ x y, (x = true ↔ A) ∧ (y = true ↔ B) ∧ wantB op x y = true) ↔ wantB op (decide A) (decide B) = true := by
  constructor
  · rintro ⟨x, y, hx, hy, h⟩
    have ex : decide A = x := by by_cases hA : A <;> cases x <;> simp_all
    have ey : decide B = y := by by_cases hB : B <;> cases y <;> simp_all
    rw [ex, ey]; exact h
  · intro h
    exact ⟨decide A, decide B, decide_eq_true_iff, decide_eq_true_iff, h⟩
theorem want0 (A B : Prop) : (∃ x y, (x = true ↔ A) ∧ (y = true ↔ B) ∧ wantB 0 x y = true) ↔ (A ∨ B) := by
  rw [want_iff]
  by_cases hA : A <;> by_cases hB : B <;> simp [wantB, hA, hB]
theorem want1 (A B : Prop) : (∃ x y, (x = true ↔ A) ∧ (y = true ↔ B) ∧ wantB 1 x y = true) ↔ (A ∧ ¬ B) := by
  rw [want_iff]
  by_cases hA : A <;> by_cases hB : B <;> simp [wantB, hA, hB]
theorem want2 (A B : Prop) : (∃ x y, (x = true ↔ A) ∧ (y = true ↔ B) ∧ wantB 2 x y = true) ↔ (A ∧ B) := by
  rw [want_iff]
  by_cases hA : A <;> by_cases hB : B <;> simp [wantB, hA, hB]
theorem sl_nil (w : World) : SL w (.slice none 0 0) [] := ⟨none, 0, rfl, by simp, fun k p hk => by simp at hk⟩
set_option maxHeartbeats 4000000 in
theorem refSum_any {w : World} {v1 : Value} {la : List (Int × Int)} (h1 : SL w v1 la) (na : la.length ≤ 1048576) :
    Calls Try.prog 25 #[v1] w fun e w' => e = .returned (.int .i64 (cnt (inB la) 0 1099511627776)) ∧ Below w.heap.size w w' := by
  have HN : Hid (Calls Try.prog 23 #[.int .i64 0, v1, .slice none 0 0] w fun e w' => ∃ ao cap L, e = .returned (.slice ao L.length cap) ∧ Norm L (inL la) ∧ L.length ≤ 8796093022207 ∧ Rngs w' ao L ∧ Below w.heap.size w w') := (joined_ex 0 (.inl rfl) h1 (sl_nil w) na (by simp)).mono fun e w' ⟨v, L, he, hN, ⟨ao, cap, hv, hl, hR⟩, hb⟩ => ⟨ao, cap, L, by rw [he, hv], norm_iff hN (fun i _ _ => by rw [want0]; exact ⟨fun h => h.elim id (fun g => absurd g (inL_nil i)), .inl⟩), hl, hR, hb⟩
  clear h1 na
  go_enter Try.func25, Try.ntmps25
  go_wp2_with (go_at_call 23; refine HN.out.mono ?_; rintro e w1 ⟨ao, cap, L, rfl, hN, hl, hR, hb1⟩)
  have HS : Hid (sumL L = cnt (inB la) 0 1099511627776) := norm_sum hN _ (fun i _ _ => inB_iff la i)
  have HE : Hid (∀ q ∈ L, 0 ≤ q.1 ∧ q.1 < q.2 ∧ q.2 ≤ 1099511627776) := fun q hq => norm_elem hN hq
  have HPt : Hid (∀ k, 0 ≤ sumL (L.take k) ∧ sumL (L.take k) ≤ 1099511627776) := fun k => by
    obtain ⟨R, t, a, hh, rfl⟩ := hN
    have := sum_part t k
    omega
  have HR : Hid (Rngs w1 ao L) := hR
  have HB1 : Hid (Below w.heap.size w w1) := hb1
  obtain ⟨n, hn⟩ : ∃ n, n = L.length := ⟨_, rfl⟩
  rw [← hn] at hl ⊢
  have HL : Hid (n = L.length) := hn
  clear hn hN hR hb1 HN
  go_loopw [4, 5] (fun s i wr => ∃ (k : Nat), k ≤ n ∧ i = .int .i64 k ∧ s = .int .i64 (sumL (L.take k)) ∧ Hid (∃ d, wr = w1.drewN d)) (fun _ i _ => n - (intOf i).toNat)
  case atStart => exact ⟨0, Nat.zero_le _, rfl, rfl, 0, rfl⟩
  case round =>
    obtain ⟨k, hk, rfl, rfl, HD⟩ := hrel
    by_cases hlt : k < n
    · obtain ⟨q, hq⟩ : ∃ q, L[k]? = some q := ⟨_, List.getElem?_eq_getElem (by have := HL.out; omega)⟩
      obtain ⟨b, off, rfl, c0, c1⟩ := HR.out k q hq
      have ec : ∀ a, wr.cell? a = w1.cell? a := fun a => by obtain ⟨d, rfl⟩ := HD.out; rfl
      rw [← ec] at c0 c1
      have HD2 : Hid (∀ n, ∃ d, wr.drewN n = w1.drewN d) := fun n => by obtain ⟨d, rfl⟩ := HD.out; exact ⟨d + n, World.drewN_drewN _ _ _⟩
      have hkz : (k : Int) < (n : Int) := by omega
      have HT : Hid (sumL (L.take (k + 1)) = sumL (L.take k) + q.2 - q.1) := by
        show _ = _
        rw [List.take_add_one, hq]; simp [sumL]; omega
      have hqe := HE.out q (List.mem_of_getElem? hq)
      have hp1 := HPt.out k
      obtain ⟨cur, hcur⟩ : ∃ cur, cur = sumL (L.take k) := ⟨_, rfl⟩
      rw [← hcur] at hp1 HT ⊢
      have w1' : IntKind.i64.wrap (cur + q.2) = cur + q.2 := by rw [IntKind.wrap_i64]; omega
      have w2' : IntKind.i64.wrap (cur + q.2 - q.1) = cur + q.2 - q.1 := by rw [IntKind.wrap_i64]; omega
      clear ec hq hqe hp1 hcur
      go_wp2
      go_quiet (fail)
      go_wp2
      go_roundw
      case rel => exact ⟨k + 1, by omega, by go_num, by rw [HT.out], HD2.out _⟩
      case measure => simp [intOf]; omega
    · have e : k = n := by omega
      subst e
      have HE2 : Hid (L.take k = L) := by show _ = _; rw [HL.out, List.take_length]
      rw [HE2.out, HS.out]
      have HX : Hid (Below w.heap.size w wr) := by
        obtain ⟨d, rfl⟩ := HD.out
        exact HB1.out.trans ((below_drewB w1 d).mono HB1.out.size)
      go_wp2
      go_ret
      exact ⟨rfl, HX.out⟩
theorem refSum_ex {w : World} {v1 : Value} {la : List (Int × Int)} (h1 : SL w v1 la) (na : la.length ≤ 1048576) :
    Calls Try.prog 25 #[v1] w fun e w' => ∃ x : Int, e = .returned (.int .i64 x) ∧ Hid (x = cnt (inB la) 0 1099511627776) ∧ Below w.heap.size w w' := (refSum_any h1 na).mono fun e w' ⟨he, hb⟩ => ⟨_, he, rfl, hb⟩

set_option maxHeartbeats 8000000 in
theorem lawSets_any {w : World} {va vb : Value} {la lb : List (Int × Int)} (gA : ArgS w va la) (gB : ArgS w vb lb) (na : la.length ≤ 1048576) (nb : lb.length ≤ 1048576) :
    Calls Try.prog 5 #[va, vb] w fun e w' => e = .returned (.bool true) ∧ Below w.heap.size w w' := by
  have sA := gA.sl (by omega)
  have sB := gB.sl (by omega)
  have hw : Below w.heap.size w w := Below.refl _ _
  clear gA gB
  go_enter Try.func5, Try.ntmps5
  go_big_wp2_with (first | (go_at_call 26; fail) | (go_at_call 27; fail) | (go_at_call 28; fail) | (go_at_call 22; fail) | (go_at_call 24; fail) | (go_at_call 21; fail) | (go_at_call 11; fail) | (go_at_call 23; fail) | (go_at_call 25; fail))
  refine (normal_sl sA).mono ?_
  rintro e w1 ⟨v1, L1, rfl, n1, s1, b1⟩
  replace sA := sA.later b1
  replace sB := sB.later b1
  replace hw := hw.trans (b1.mono hw.size)
  clear b1
  go_big_wp2_with (first | (go_at_call 26; fail) | (go_at_call 27; fail) | (go_at_call 28; fail) | (go_at_call 22; fail) | (go_at_call 24; fail) | (go_at_call 21; fail) | (go_at_call 11; fail) | (go_at_call 23; fail) | (go_at_call 25; fail))
  refine (joined_ex 0 (.inl rfl) sA (sl_nil _) na (by simp)).mono ?_
  rintro e w2 ⟨v2, L2, rfl, n2, s2, b2⟩
  replace sA := sA.later b2
  replace sB := sB.later b2
  replace s1 := s1.later b2
  replace hw := hw.trans (b2.mono hw.size)
  clear b2
  obtain rfl : L1 = L2 := norm_unique n1 n2 (fun i _ _ => by rw [want0]; exact ⟨.inl, fun h => h.elim id (fun g => absurd g (inL_nil i))⟩)
  go_big_wp2_with (first | (go_at_call 26; fail) | (go_at_call 27; fail) | (go_at_call 28; fail) | (go_at_call 22; fail) | (go_at_call 24; fail) | (go_at_call 21; fail) | (go_at_call 11; fail) | (go_at_call 23; fail) | (go_at_call 25; fail))
  refine (ranges_same s1 s2).mono ?_
  rintro e w3 ⟨rfl, b3⟩
  replace sA := sA.later b3
  replace sB := sB.later b3
  replace s1 := s1.later b3
  replace s2 := s2.later b3
  replace hw := hw.trans (b3.mono hw.size)
  clear b3
  clear n1 n2
  clear s1 s2
  go_big_wp2_with (first | (go_at_call 26; fail) | (go_at_call 27; fail) | (go_at_call 28; fail) | (go_at_call 22; fail) | (go_at_call 24; fail) | (go_at_call 21; fail) | (go_at_call 11; fail) | (go_at_call 23; fail) | (go_at_call 25; fail))
  refine (sum_ex sA).mono ?_
  rintro e w4 ⟨x4, rfl, hx4, b4⟩
  replace sA := sA.later b4
  replace sB := sB.later b4
  replace hw := hw.trans (b4.mono hw.size)
  clear b4
  go_big_wp2_with (first | (go_at_call 26; fail) | (go_at_call 27; fail) | (go_at_call 28; fail) | (go_at_call 22; fail) | (go_at_call 24; fail) | (go_at_call 21; fail) | (go_at_call 11; fail) | (go_at_call 23; fail) | (go_at_call 25; fail))
  refine (refSum_ex sA na).mono ?_
  rintro e w5 ⟨x5, rfl, hx5, b5⟩
  replace sA := sA.later b5
  replace sB := sB.later b5
  replace hw := hw.trans (b5.mono hw.size)
  clear b5
  obtain rfl : x4 = x5 := hx4.out.trans hx5.out.symm
  have d4 : (x4 != x4) = false := by simp
  clear hx4 hx5
  go_big_wp2_with (first | (go_at_call 26; fail) | (go_at_call 27; fail) | (go_at_call 28; fail) | (go_at_call 22; fail) | (go_at_call 24; fail) | (go_at_call 21; fail) | (go_at_call 11; fail) | (go_at_call 23; fail) | (go_at_call 25; fail))
  refine (union_any sA sB).mono ?_
  rintro e w6 ⟨v6, L6, rfl, n6, s6, b6⟩
  replace sA := sA.later b6
  replace sB := sB.later b6
  replace hw := hw.trans (b6.mono hw.size)
  clear b6
  go_big_wp2_with (first | (go_at_call 26; fail) | (go_at_call 27; fail) | (go_at_call 28; fail) | (go_at_call 22; fail) | (go_at_call 24; fail) | (go_at_call 21; fail) | (go_at_call 11; fail) | (go_at_call 23; fail) | (go_at_call 25; fail))
  refine (joined_ex 0 (.inl rfl) sA sB na nb).mono ?_
  rintro e w7 ⟨v7, L7, rfl, n7, s7, b7⟩
  replace sA := sA.later b7
  replace sB := sB.later b7
  replace s6 := s6.later b7
  replace hw := hw.trans (b7.mono hw.size)
  clear b7
  obtain rfl : L6 = L7 := norm_unique n6 n7 (fun i _ _ => by rw [want0])
  go_big_wp2_with (first | (go_at_call 26; fail) | (go_at_call 27; fail) | (go_at_call 28; fail) | (go_at_call 22; fail) | (go_at_call 24; fail) | (go_at_call 21; fail) | (go_at_call 11; fail) | (go_at_call 23; fail) | (go_at_call 25; fail))
  refine (ranges_same s6 s7).mono ?_
  rintro e w8 ⟨rfl, b8⟩
  replace sA := sA.later b8
  replace sB := sB.later b8
  replace s6 := s6.later b8
  replace s7 := s7.later b8
  replace hw := hw.trans (b8.mono hw.size)
  clear b8
  clear n6 n7
  clear s6 s7
  go_big_wp2_with (first | (go_at_call 26; fail) | (go_at_call 27; fail) | (go_at_call 28; fail) | (go_at_call 22; fail) | (go_at_call 24; fail) | (go_at_call 21; fail) | (go_at_call 11; fail) | (go_at_call 23; fail) | (go_at_call 25; fail))
  refine (minus_any sA sB).mono ?_
  rintro e w9 ⟨v9, L9, rfl, n9, s9, b9⟩
  replace sA := sA.later b9
  replace sB := sB.later b9
  replace hw := hw.trans (b9.mono hw.size)
  clear b9
  go_big_wp2_with (first | (go_at_call 26; fail) | (go_at_call 27; fail) | (go_at_call 28; fail) | (go_at_call 22; fail) | (go_at_call 24; fail) | (go_at_call 21; fail) | (go_at_call 11; fail) | (go_at_call 23; fail) | (go_at_call 25; fail))
  refine (joined_ex 1 (.inr (.inl rfl)) sA sB na nb).mono ?_
  rintro e w10 ⟨v10, L10, rfl, n10, s10, b10⟩
  replace sA := sA.later b10
  replace sB := sB.later b10
  replace s9 := s9.later b10
  replace hw := hw.trans (b10.mono hw.size)
  clear b10
  obtain rfl : L9 = L10 := norm_unique n9 n10 (fun i _ _ => by rw [want1])
  go_big_wp2_with (first | (go_at_call 26; fail) | (go_at_call 27; fail) | (go_at_call 28; fail) | (go_at_call 22; fail) | (go_at_call 24; fail) | (go_at_call 21; fail) | (go_at_call 11; fail) | (go_at_call 23; fail) | (go_at_call 25; fail))
  refine (ranges_same s9 s10).mono ?_
  rintro e w11 ⟨rfl, b11⟩
  replace sA := sA.later b11
  replace sB := sB.later b11
  replace s9 := s9.later b11
  replace s10 := s10.later b11
  replace hw := hw.trans (b11.mono hw.size)
  clear b11
  clear n9 n10
  clear s9 s10
  go_big_wp2_with (first | (go_at_call 26; fail) | (go_at_call 27; fail) | (go_at_call 28; fail) | (go_at_call 22; fail) | (go_at_call 24; fail) | (go_at_call 21; fail) | (go_at_call 11; fail) | (go_at_call 23; fail) | (go_at_call 25; fail))
  refine (meet_any sA sB).mono ?_
  rintro e w12 ⟨v12, L12, rfl, n12, s12, b12⟩
  replace sA := sA.later b12
  replace sB := sB.later b12
  replace hw := hw.trans (b12.mono hw.size)
  clear b12
  go_big_wp2_with (first | (go_at_call 26; fail) | (go_at_call 27; fail) | (go_at_call 28; fail) | (go_at_call 22; fail) | (go_at_call 24; fail) | (go_at_call 21; fail) | (go_at_call 11; fail) | (go_at_call 23; fail) | (go_at_call 25; fail))
  refine (joined_ex 2 (.inr (.inr rfl)) sA sB na nb).mono ?_
  rintro e w13 ⟨v13, L13, rfl, n13, s13, b13⟩
  replace sA := sA.later b13
  replace sB := sB.later b13
  replace s12 := s12.later b13
  replace hw := hw.trans (b13.mono hw.size)
  clear b13
  obtain rfl : L12 = L13 := norm_unique n12 n13 (fun i _ _ => by rw [want2])
  go_big_wp2_with (first | (go_at_call 26; fail) | (go_at_call 27; fail) | (go_at_call 28; fail) | (go_at_call 22; fail) | (go_at_call 24; fail) | (go_at_call 21; fail) | (go_at_call 11; fail) | (go_at_call 23; fail) | (go_at_call 25; fail))
  refine (ranges_same s12 s13).mono ?_
  rintro e w14 ⟨rfl, b14⟩
  replace sA := sA.later b14
  replace sB := sB.later b14
  replace s12 := s12.later b14
  replace s13 := s13.later b14
  replace hw := hw.trans (b14.mono hw.size)
  clear b14
  clear n12 n13
  clear s12 s13
  go_big_wp2_with (first | (go_at_call 26; fail) | (go_at_call 27; fail) | (go_at_call 28; fail) | (go_at_call 22; fail) | (go_at_call 24; fail) | (go_at_call 21; fail) | (go_at_call 11; fail) | (go_at_call 23; fail) | (go_at_call 25; fail))
  refine (I.alive_any _).mono ?_
  rintro e w15 ⟨rfl, b15⟩
  replace sA := sA.later b15
  replace sB := sB.later b15
  replace hw := hw.trans (b15.mono hw.size)
  clear b15
  go_big_wp2
  go_ret
  exact ⟨rfl, hw⟩
end Go.Proofs.Ytijafckdbhklmab.B
