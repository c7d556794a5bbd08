import Derived.Test.YtijafckdbhklmabZA
import Derived.Test.YtijafckdbhklmabXK
import Derived.Deep.AppendLies
import Derived.Deep.RegionHeld3
import Derived.Deep.DrawnRows
namespace Go.Proofs.Ytijafckdbhklmab.B
open Go.RowKit Go.Sort Go.Lib Go.Shelf
attribute [local go_sem] Oper.semAt_some
attribute [local go_sem ↓] Go.wp_at_zero Go.wp_at_succ
set_option linter.unusedVariables false
set_option linter.unusedSimpArgs false
set_option maxRecDepth 100000

theorem infoI64 : (Try.prog.info? 2).map (fun i => (i.zero, i.size, i.bytes)) = some (some (.int .i64 0), 1, 8) := by kernel_rfl
theorem has_eq {L : List (Int × Int)} {S : Int → Prop} (h : Norm L S) (x : Int) (b : Bool) (hb : b = true ↔ (0 ≤ x ∧ x < 1099511627776 ∧ S x)) : hasB L x = b := by
  have h1 : hasB L x = true ↔ b = true := by
    rw [hasB_iff, hb, norm_in h]
    exact ⟨fun g => ⟨g.1, g.2.1, g.2.2.2.2⟩, fun g => ⟨g.1, g.2.1, g⟩⟩
  cases b <;> cases hh : hasB L x <;> simp_all
theorem has_1 {L la : List (Int × Int)} (h : Norm L (inL la)) (x : Int) : hasB L x = hasB la x := has_eq h x _ (hasB_iff la x)
theorem has_u {L la lb : List (Int × Int)} (h : Norm L (fun i => inL la i ∨ inL lb i)) (x : Int) : hasB L x = (hasB la x || hasB lb x) := has_eq h x _ (by
  rw [Bool.or_eq_true, hasB_iff, hasB_iff]
  constructor
  · rintro (⟨a, b, c⟩ | ⟨a, b, c⟩)
    · exact ⟨a, b, .inl c⟩
    · exact ⟨a, b, .inr c⟩
  · rintro ⟨a, b, c | c⟩
    · exact .inl ⟨a, b, c⟩
    · exact .inr ⟨a, b, c⟩)
theorem has_d {L la lb : List (Int × Int)} (h : Norm L (fun i => inL la i ∧ ¬ inL lb i)) (x : Int) : hasB L x = (hasB la x && !hasB lb x) := has_eq h x _ (by
  have hn : (!hasB lb x) = true ↔ ¬ (0 ≤ x ∧ x < 1099511627776 ∧ inL lb x) := by rw [← hasB_iff]; cases hasB lb x <;> simp
  rw [Bool.and_eq_true, hn, hasB_iff]
  constructor
  · rintro ⟨⟨a, b, c⟩, d⟩; exact ⟨a, b, c, fun e => d ⟨a, b, e⟩⟩
  · rintro ⟨a, b, c, d⟩; exact ⟨⟨a, b, c⟩, fun e => d e.2.2⟩)
theorem has_m {L la lb : List (Int × Int)} (h : Norm L (fun i => inL la i ∧ inL lb i)) (x : Int) : hasB L x = (hasB la x && hasB lb x) := has_eq h x _ (by
  rw [Bool.and_eq_true, hasB_iff, hasB_iff]
  constructor
  · rintro ⟨⟨a, b, c⟩, d⟩; exact ⟨a, b, c, d.2.2⟩
  · rintro ⟨a, b, c, d⟩; exact ⟨⟨a, b, c⟩, a, b, d⟩)
/-- a row of numbers of one's own -/
def IRow (base : Nat) (w : World) (v : Value) (P : List Int) : Prop := ∃ g cap, v = .slice (some ⟨g, 0, none⟩) P.length cap ∧ w.ownsRow base 2 1 (.slice (some ⟨g, 0, none⟩) P.length cap) P.length (P.map (fun x => .int .i64 x))

set_option maxHeartbeats 8000000 in
theorem lawMembers_any {w : World} {va vb : Value} {la lb : List (Int × Int)} (place : Int) (gA : ArgS w va la) (gB : ArgS w vb lb) (na0 : la.length ≤ 1048576) (nb0 : lb.length ≤ 1048576) :
    Calls Try.prog 6 #[va, vb, .int .i64 place] w fun e w' => e = .returned (.bool true) ∧ Below w.heap.size w w' := by
  have sA := gA.sl (by omega)
  have sB := gB.sl (by omega)
  have hw : Below w.heap.size w w := Below.refl _ _
  clear gA gB
  go_enter Try.func6, Try.ntmps6
  go_big_wp2_with (first | (go_at_call 26; fail) | (go_at_call 27; fail) | (go_at_call 28; fail) | (go_at_call 22; fail) | (go_at_call 29; fail) | (go_at_call 30; fail) | (go_at_call 11; fail))
  refine (normal_sl sA).mono ?_
  rintro e w1 ⟨v1, L1, rfl, n1, s1, b1⟩
  replace sA := sA.later b1
  replace sB := sB.later b1
  replace hw := hw.trans (b1.mono hw.size)
  clear b1
  go_big_wp2_with (first | (go_at_call 26; fail) | (go_at_call 27; fail) | (go_at_call 28; fail) | (go_at_call 22; fail) | (go_at_call 29; fail) | (go_at_call 30; fail) | (go_at_call 11; fail))
  refine (union_any sA sB).mono ?_
  rintro e w2 ⟨v2, L2, rfl, n2, s2, b2⟩
  replace sA := sA.later b2
  replace sB := sB.later b2
  replace s1 := s1.later b2
  replace hw := hw.trans (b2.mono hw.size)
  clear b2
  go_big_wp2_with (first | (go_at_call 26; fail) | (go_at_call 27; fail) | (go_at_call 28; fail) | (go_at_call 22; fail) | (go_at_call 29; fail) | (go_at_call 30; fail) | (go_at_call 11; fail))
  refine (minus_any sA sB).mono ?_
  rintro e w3 ⟨v3, L3, rfl, n3, s3, b3⟩
  replace sA := sA.later b3
  replace sB := sB.later b3
  replace s1 := s1.later b3
  replace s2 := s2.later b3
  replace hw := hw.trans (b3.mono hw.size)
  clear b3
  go_big_wp2_with (first | (go_at_call 26; fail) | (go_at_call 27; fail) | (go_at_call 28; fail) | (go_at_call 22; fail) | (go_at_call 29; fail) | (go_at_call 30; fail) | (go_at_call 11; fail))
  refine (meet_any sA sB).mono ?_
  rintro e w4 ⟨v4, L4, rfl, n4, s4, b4⟩
  replace sA := sA.later b4
  replace sB := sB.later b4
  replace s1 := s1.later b4
  replace s2 := s2.later b4
  replace s3 := s3.later b4
  replace hw := hw.trans (b4.mono hw.size)
  clear b4
  go_big_wp2_with (first | (go_at_call 26; fail) | (go_at_call 27; fail) | (go_at_call 28; fail) | (go_at_call 22; fail) | (go_at_call 29; fail) | (go_at_call 30; fail) | (go_at_call 11; fail))
  refine (normal_yes s1 n1).mono ?_
  rintro e w5 ⟨rfl, b5⟩
  replace sA := sA.later b5
  replace sB := sB.later b5
  replace s1 := s1.later b5
  replace s2 := s2.later b5
  replace s3 := s3.later b5
  replace s4 := s4.later b5
  replace hw := hw.trans (b5.mono hw.size)
  clear b5
  go_big_wp2_with (first | (go_at_call 26; fail) | (go_at_call 27; fail) | (go_at_call 28; fail) | (go_at_call 22; fail) | (go_at_call 29; fail) | (go_at_call 30; fail) | (go_at_call 11; fail))
  refine (normal_yes s2 n2).mono ?_
  rintro e w6 ⟨rfl, b6⟩
  replace sA := sA.later b6
  replace sB := sB.later b6
  replace s1 := s1.later b6
  replace s2 := s2.later b6
  replace s3 := s3.later b6
  replace s4 := s4.later b6
  replace hw := hw.trans (b6.mono hw.size)
  clear b6
  go_big_wp2_with (first | (go_at_call 26; fail) | (go_at_call 27; fail) | (go_at_call 28; fail) | (go_at_call 22; fail) | (go_at_call 29; fail) | (go_at_call 30; fail) | (go_at_call 11; fail))
  refine (normal_yes s3 n3).mono ?_
  rintro e w7 ⟨rfl, b7⟩
  replace sA := sA.later b7
  replace sB := sB.later b7
  replace s1 := s1.later b7
  replace s2 := s2.later b7
  replace s3 := s3.later b7
  replace s4 := s4.later b7
  replace hw := hw.trans (b7.mono hw.size)
  clear b7
  go_big_wp2_with (first | (go_at_call 26; fail) | (go_at_call 27; fail) | (go_at_call 28; fail) | (go_at_call 22; fail) | (go_at_call 29; fail) | (go_at_call 30; fail) | (go_at_call 11; fail))
  refine (normal_yes s4 n4).mono ?_
  rintro e w8 ⟨rfl, b8⟩
  replace sA := sA.later b8
  replace sB := sB.later b8
  replace s1 := s1.later b8
  replace s2 := s2.later b8
  replace s3 := s3.later b8
  replace s4 := s4.later b8
  replace hw := hw.trans (b8.mono hw.size)
  clear b8
  obtain ⟨ao, ca, rfl, hla, hA⟩ := sA
  obtain ⟨bo, cb, rfl, hlb, hB⟩ := sB
  have HA : Hid (Rngs w8 ao la) := hA
  have HB : Hid (Rngs w8 bo lb) := hB
  have sA : Hid (SL w8 (.slice ao la.length ca) la) := ⟨ao, ca, rfl, hla, hA⟩
  have sB : Hid (SL w8 (.slice bo lb.length cb) lb) := ⟨bo, cb, rfl, hlb, hB⟩
  have S1 : Hid (SL w8 v1 L1) := s1
  have S2 : Hid (SL w8 v2 L2) := s2
  have S3 : Hid (SL w8 v3 L3) := s3
  have S4 : Hid (SL w8 v4 L4) := s4
  have HW : Hid (Below w.heap.size w w8) := hw
  have HN1 : Hid (∀ x, hasB L1 x = hasB la x) := fun x => has_1 n1 x
  have HN2 : Hid (∀ x, hasB L2 x = (hasB la x || hasB lb x)) := fun x => has_u n2 x
  have HN3 : Hid (∀ x, hasB L3 x = (hasB la x && !hasB lb x)) := fun x => has_d n3 x
  have HN4 : Hid (∀ x, hasB L4 x = (hasB la x && hasB lb x)) := fun x => has_m n4 x
  obtain ⟨na, hna⟩ : ∃ na, na = la.length := ⟨_, rfl⟩
  obtain ⟨nb, hnb⟩ : ∃ nb, nb = lb.length := ⟨_, rfl⟩
  rw [← hna] at sA hla na0 ⊢
  rw [← hnb] at sB hlb nb0 ⊢
  have HLa : Hid (na = la.length) := hna
  have HLb : Hid (nb = lb.length) := hnb
  clear hna hnb s1 s2 s3 s4 n1 n2 n3 n4 hw hA hB hla hlb
  obtain ⟨i0, hi, hz0, hz1, hz2⟩ := info_parts infoI64
  go_big_wp2
  obtain ⟨W9, hW9⟩ : ∃ W9, W9 = w8.alloc (.cells #[.int .i64 place, .int .i64 0, .int .i64 1099511627775, .int .i64 1099511627776, .int .i64 (-1)] 2) := ⟨_, rfl⟩
  have R9 : Hid (IRow w8.heap.size W9 (.slice (some ⟨w8.heap.size, 0, none⟩) 5 5) [place, 0, 1099511627775, 1099511627776, -1]) := by
    refine ⟨w8.heap.size, 5, rfl, ?_⟩
    have := owns_of_cur (w := W9) (base := w8.heap.size) (e := 2) (size := 1) (g := w8.heap.size) (n := 5) (cap := 5) (by rw [hW9]; exact heap_alloc_new w8 _) (Nat.le_refl _) (Nat.le_refl _) (by decide) rfl
    simpa using this
  have B9 : Hid (Below w8.heap.size w8 W9) := by rw [hW9]; exact (Below.refl _ w8).alloc (Nat.le_refl _) _
  rw [← hW9]
  clear hW9
  go_loopw [11, 12] (fun av i wr => ∃ (ka : Nat) (P : List Int), ka ≤ na ∧ i = .int .i64 ka ∧ P.length ≤ 5 + 4 * ka ∧ Hid (IRow w8.heap.size wr av P) ∧ Hid (Below w8.heap.size w8 wr)) (fun _ i _ => na - (intOf i).toNat)
  case atStart => exact ⟨0, _, Nat.zero_le _, rfl, by simp, R9, B9⟩
  case round =>
    obtain ⟨ka, P, hk, rfl, hP, HI, HBk⟩ := hrel
    by_cases hlt : ka < na
    · obtain ⟨q, hq⟩ : ∃ q, la[ka]? = some q := ⟨_, List.getElem?_eq_getElem (by have := HLa.out; omega)⟩
      obtain ⟨b, off, rfl, d0, d1⟩ := HA.out ka q hq
      obtain ⟨g, cap, rfl, ho⟩ := HI.out
      have c0 := cell_later HBk.out d0
      have c1 := cell_later HBk.out d1
      have hbl : b < w8.heap.size := World.block_lt_of_cell? _ _ d0
      have hbw := HBk.out.size
      have hbg : w8.heap.size ≤ g := (ho.lt g rfl).1
      have hne : some b ≠ (Value.slice (some ⟨g, 0, none⟩) P.length cap).ownBlock := by simp [Value.ownBlock]; omega
      have hkz : (ka : Int) < (na : Int) := by omega
      obtain ⟨y1, hy1⟩ : ∃ y, IntKind.i64.wrap (q.1 - 1) = y := ⟨_, rfl⟩
      obtain ⟨y2, hy2⟩ : ∃ y, IntKind.i64.wrap (q.2 - 1) = y := ⟨_, rfl⟩
      have h63 : P.length + 4 ≤ maxLen := by unfold maxLen; omega
      have hby : (P.length + 4) * 8 ≤ 140737488355328 := by omega
      clear d0 d1 hq
      go_wp2
      go_region_held3 (fun w' => w'.cell? ⟨b, off + ka * 2, none⟩ = some (.int .i64 q.1) ∧ w'.cell? ⟨b, off + ka * 2 + 1, none⟩ = some (.int .i64 q.2)) (first | go_keep | (go_split_ands; refine ⟨?_, ?_⟩ <;> (rw [hgrow.cell_far _ (by simp; omega) hne]; assumption))) ((refine step_append_lies _ (by rfl) _ _ _ (by rfl) w8.heap.size 2 i0 _ 1 8 Try.underlying55 hi hz0 hz1 hz2 rfl (by omega) (.slice (some ⟨g, 0, none⟩) P.length cap) P.length (P.map (fun x => .int .i64 x)) (by rfl) ((ho.alloc _).drew) ⟨wr.heap.size, 0, none⟩ 4 4 [.int .i64 q.1, .int .i64 y1, .int .i64 q.2, .int .i64 y2] (by rfl) (by rfl) (World.news_of_block (cs := #[.int .i64 q.1, .int .i64 y1, .int .i64 q.2, .int .i64 y2]) (t := 2) (fr := (0, 0)) (heap_alloc_new wr _)) (by simp [Value.oneCell']) (by omega) h63 hby (by simp; omega) (wr.heap.size + 1) (by simp) ?_; intro gg cap1 wn hown1 hgrow hat hltg))
      go_wp2
      go_roundw
      case rel => exact ⟨ka + 1, P ++ [q.1, y1, q.2, y2], by omega, by go_num, by simp; omega, ⟨gg, cap1, by simp, by simpa using hown1⟩, (below_drew (HBk.out.alloc HBk.out.size _)).grown hgrow (by simp; omega) (fun ka e => by simp [Value.ownBlock] at e; omega)⟩
      case measure => simp [intOf]; omega
    · have e : ka = na := by omega
      subst e
      obtain ⟨g, cap, rfl, ho⟩ := HI.out
      clear hk hlt
      go_wp2
      go_loopw [11, 13] (fun av i wr => ∃ (kb : Nat) (P : List Int), kb ≤ nb ∧ i = .int .i64 kb ∧ P.length ≤ 4194309 + 4 * kb ∧ Hid (IRow w8.heap.size wr av P) ∧ Hid (Below w8.heap.size w8 wr)) (fun _ i _ => nb - (intOf i).toNat)
      case atStart => exact ⟨0, P, Nat.zero_le _, rfl, by omega, ⟨g, cap, rfl, ho⟩, HBk⟩
      case round =>
        obtain ⟨kb, P, hk, rfl, hP, HI, HBk⟩ := hrel
        by_cases hlt : kb < nb
        · obtain ⟨q, hq⟩ : ∃ q, lb[kb]? = some q := ⟨_, List.getElem?_eq_getElem (by have := HLb.out; omega)⟩
          obtain ⟨b, off, rfl, d0, d1⟩ := HB.out kb q hq
          obtain ⟨g, cap, rfl, ho⟩ := HI.out
          have c0 := cell_later HBk.out d0
          have c1 := cell_later HBk.out d1
          have hbl : b < w8.heap.size := World.block_lt_of_cell? _ _ d0
          have hbw := HBk.out.size
          have hbg : w8.heap.size ≤ g := (ho.lt g rfl).1
          have hne : some b ≠ (Value.slice (some ⟨g, 0, none⟩) P.length cap).ownBlock := by simp [Value.ownBlock]; omega
          have hkz : (kb : Int) < (nb : Int) := by omega
          obtain ⟨y1, hy1⟩ : ∃ y, IntKind.i64.wrap (q.1 - 1) = y := ⟨_, rfl⟩
          obtain ⟨y2, hy2⟩ : ∃ y, IntKind.i64.wrap (q.2 - 1) = y := ⟨_, rfl⟩
          have h63 : P.length + 4 ≤ maxLen := by unfold maxLen; omega
          have hby : (P.length + 4) * 8 ≤ 140737488355328 := by omega
          clear d0 d1 hq
          go_wp2
          go_region_held3 (fun w' => w'.cell? ⟨b, off + kb * 2, none⟩ = some (.int .i64 q.1) ∧ w'.cell? ⟨b, off + kb * 2 + 1, none⟩ = some (.int .i64 q.2)) (first | go_keep | (go_split_ands; refine ⟨?_, ?_⟩ <;> (rw [hgrow.cell_far _ (by simp; omega) hne]; assumption))) ((refine step_append_lies _ (by rfl) _ _ _ (by rfl) w8.heap.size 2 i0 _ 1 8 Try.underlying55 hi hz0 hz1 hz2 rfl (by omega) (.slice (some ⟨g, 0, none⟩) P.length cap) P.length (P.map (fun x => .int .i64 x)) (by rfl) ((ho.alloc _).drew) ⟨wr.heap.size, 0, none⟩ 4 4 [.int .i64 q.1, .int .i64 y1, .int .i64 q.2, .int .i64 y2] (by rfl) (by rfl) (World.news_of_block (cs := #[.int .i64 q.1, .int .i64 y1, .int .i64 q.2, .int .i64 y2]) (t := 2) (fr := (0, 0)) (heap_alloc_new wr _)) (by simp [Value.oneCell']) (by omega) h63 hby (by simp; omega) (wr.heap.size + 1) (by simp) ?_; intro gg cap1 wn hown1 hgrow hat hltg))
          go_wp2
          go_roundw
          case rel => exact ⟨kb + 1, P ++ [q.1, y1, q.2, y2], by omega, by go_num, by simp; omega, ⟨gg, cap1, by simp, by simpa using hown1⟩, (below_drew (HBk.out.alloc HBk.out.size _)).grown hgrow (by simp; omega) (fun kb e => by simp [Value.ownBlock] at e; omega)⟩
          case measure => simp [intOf]; omega
        · have e : kb = nb := by omega
          subst e
          obtain ⟨g, cap, rfl, ho⟩ := HI.out
          clear hk hlt HI
          go_wp2
          obtain ⟨W7, hW7⟩ : ∃ W7, W7 = wr := ⟨_, rfl⟩
          rw [← hW7] at ho HBk ⊢
          clear hW7
          have HO : Hid (W7.ownsRow w8.heap.size 2 1 (.slice (some ⟨g, 0, none⟩) P.length cap) P.length (P.map (fun x => .int .i64 x))) := ho
          have HSL : Hid (∀ (d : Nat) (v : Value) (l : List (Int × Int)), SL w8 v l → SL (W7.drewN d) v l) := fun d v l h => (h.later HBk.out).later (below_drewB W7 d)
          obtain ⟨np, hnp⟩ : ∃ np, np = P.length := ⟨_, rfl⟩
          have HNP : Hid (np = P.length) := hnp
          have hnp2 : np ≤ 8388613 := by omega
          rw [← hnp]
          clear hnp ho hP
          go_loopw [14] (fun i ws => ∃ (j : Nat), j ≤ np ∧ i = .int .i64 j ∧ Hid (∃ d, ws = W7.drewN d)) (fun i _ => np - (intOf i).toNat)
          case atStart => exact ⟨0, Nat.zero_le _, rfl, 0, rfl⟩
          case round =>
            obtain ⟨j, hj, rfl, HD⟩ := hrel
            by_cases hlt : j < np
            · obtain ⟨x, hx⟩ : ∃ x, P[j]? = some x := ⟨_, List.getElem?_eq_getElem (by have := HNP.out; omega)⟩
              have c0 : wr.cell? ⟨g, j, none⟩ = some (.int .i64 x) := by
                have h1 := HO.out.cells (g := g) rfl j (.int .i64 x) (by rw [List.getElem?_map, hx]; rfl)
                rw [WideShapes.add_plain, Nat.zero_add] at h1
                obtain ⟨d, rfl⟩ := HD.out
                exact h1
              have HD2 : Hid (∀ n, ∃ d, wr.drewN n = W7.drewN d) := fun n => by obtain ⟨d, rfl⟩ := HD.out; exact ⟨d + n, World.drewN_drewN _ _ _⟩
              have HQ : Hid (∀ (n : Nat) (v : Value) (l : List (Int × Int)), SL w8 v l → Calls Try.prog 30 #[v, .int .i64 x] (wr.drewN n) fun e w' => e = .returned (.bool (hasB l x)) ∧ w' = wr.drewN n) := fun n v l h => by
                obtain ⟨d, hd⟩ := HD2.out n
                rw [hd]; exact has_any (HSL.out d v l h) x
              have m1 := HN1.out x
              have m2 := HN2.out x
              have m3 := HN3.out x
              have m4 := HN4.out x
              have QA := fun n => HQ.out n _ _ sA.out
              have QB := fun n => HQ.out n _ _ sB.out
              have Q1 := fun n => HQ.out n _ _ S1.out
              have Q2 := fun n => HQ.out n _ _ S2.out
              have Q3 := fun n => HQ.out n _ _ S3.out
              have Q4 := fun n => HQ.out n _ _ S4.out
              rw [m1] at Q1
              rw [m2] at Q2
              rw [m3] at Q3
              rw [m4] at Q4
              clear m1 m2 m3 m4 hx HQ
              have hjz : (j : Int) < (np : Int) := by omega
              generalize hasB la x = A at QA Q1 Q2 Q3 Q4
              generalize hasB lb x = Bv at QB Q2 Q3 Q4
              cases A <;> cases Bv
              all_goals
                simp only [Bool.or_false, Bool.or_true, Bool.false_or, Bool.true_or, Bool.or_self, Bool.and_false, Bool.and_true, Bool.false_and, Bool.true_and, Bool.and_self, Bool.not_true, Bool.not_false] at Q2 Q3 Q4
                have HQA : Hid (∀ n, Calls Try.prog 30 _ (wr.drewN n) _) := QA
                have HQB : Hid (∀ n, Calls Try.prog 30 _ (wr.drewN n) _) := QB
                have HQ1 : Hid (∀ n, Calls Try.prog 30 _ (wr.drewN n) _) := Q1
                have HQ2 : Hid (∀ n, Calls Try.prog 30 _ (wr.drewN n) _) := Q2
                have HQ3 : Hid (∀ n, Calls Try.prog 30 _ (wr.drewN n) _) := Q3
                have HQ4 : Hid (∀ n, Calls Try.prog 30 _ (wr.drewN n) _) := Q4
                clear QA QB Q1 Q2 Q3 Q4
                go_wp2
                go_quiet (first | (go_at_call_of 30 (Value.slice ao ka ca); exact Calls.quiet_of_same (HQA.out _)) | (go_at_call_of 30 (Value.slice bo kb cb); exact Calls.quiet_of_same (HQB.out _)))
                go_wp2_with (first | (go_at_call_of 30 v1; refine (HQ1.out _).mono ?_; rintro e w9' ⟨rfl, hw9⟩; rw [hw9]; clear hw9) | (go_at_call_of 30 v2; refine (HQ2.out _).mono ?_; rintro e w9' ⟨rfl, hw9⟩; rw [hw9]; clear hw9) | (go_at_call_of 30 v3; refine (HQ3.out _).mono ?_; rintro e w9' ⟨rfl, hw9⟩; rw [hw9]; clear hw9) | (go_at_call_of 30 v4; refine (HQ4.out _).mono ?_; rintro e w9' ⟨rfl, hw9⟩; rw [hw9]; clear hw9))
                go_roundw
                case rel => exact ⟨j + 1, by omega, by go_num, HD2.out _⟩
                case measure => simp [intOf]; omega
            · have e : j = np := by omega
              subst e
              have HX : Hid (Below w.heap.size w wr) := by
                obtain ⟨d, rfl⟩ := HD.out
                exact HW.out.trans ((HBk.out.trans ((below_drewB W7 d).mono HBk.out.size)).mono HW.out.size)
              go_wp2_with (go_at_call 11; refine (I.alive_any _).mono ?_; rintro e wz ⟨rfl, hbz⟩)
              go_ret
              exact ⟨rfl, HX.out.trans (hbz.mono HX.out.size)⟩
end Go.Proofs.Ytijafckdbhklmab.B
