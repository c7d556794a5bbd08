import Derived.Test.YtijafckdbhklmabZP
namespace Go.Proofs.Ytijafckdbhklmab.B
open Go.RowKit Go.Sort Go.Lib Go.Shelf
attribute [local go_sem] Oper.semAt_some
set_option linter.unusedVariables false
set_option linter.unusedSimpArgs false
set_option maxRecDepth 100000

def putIf (c : List Int) (e : Int) : List Int := if 0 < e ∧ e < 1099511627776 then putL c e else c
theorem putIf_length (c : List Int) (e : Int) : (putIf c e).length ≤ c.length + 1 := by
  unfold putIf
  split
  · exact putL_length c e
  · omega
/-- the places at which a set may turn -/
def endsL (l : List (Int × Int)) (c : List Int) : List Int := l.foldl (fun c q => putIf (putIf c q.1) q.2) c
theorem endsL_snoc (l : List (Int × Int)) (q : Int × Int) (c : List Int) : endsL (l ++ [q]) c = putIf (putIf (endsL l c) q.1) q.2 := by simp [endsL]
theorem endsL_length (l : List (Int × Int)) (c : List Int) : (endsL l c).length ≤ c.length + 2 * l.length := by
  refine snoc_ind (P := fun l => (endsL l c).length ≤ c.length + 2 * l.length) (by simp [endsL]) ?_ l
  intro t q h1
  rw [endsL_snoc]
  have h2 := putIf_length (endsL t c) q.1
  have h3 := putIf_length (putIf (endsL t c) q.1) q.2
  simp; omega
set_option maxHeartbeats 8000000 in
theorem ends_any {w : World} {v1 v2 : Value} {l : List (Int × Int)} {c : List Int} (h1 : SL w v1 l) (h2 : IL w v2 c) (hl : l.length ≤ 1048576) (hc : c.length ≤ 8388608) :
    Calls Try.prog 44 #[v1, v2] w fun e w' => ∃ v, e = .returned v ∧ IL w' v (endsL l c) ∧ Below w.heap.size w w' := by
  obtain ⟨ao, ca, rfl, _, hA⟩ := h1
  have HA : Hid (Rngs w ao l) := hA
  have H2 : Hid (IL w v2 c) := h2
  obtain ⟨n, hn⟩ : ∃ n, n = l.length := ⟨_, rfl⟩
  rw [← hn] at hl ⊢
  have HL : Hid (n = l.length) := hn
  clear hn hA h2
  go_enter Try.func44, Try.ntmps44
  go_wp2
  go_loopw [1, 5] (fun a i wr => ∃ (k : Nat), k ≤ n ∧ i = .int .i64 k ∧ Hid (IL wr a (endsL (l.take k) c)) ∧ Hid (Below w.heap.size w wr)) (fun _ i _ => n - (intOf i).toNat)
  case atStart => exact ⟨0, Nat.zero_le _, rfl, H2, Below.refl _ _⟩
  case round =>
    obtain ⟨k, hk, rfl, HI, HBk⟩ := hrel
    by_cases hlt : k < n
    · obtain ⟨q, hq⟩ : ∃ q, l[k]? = some q := ⟨_, List.getElem?_eq_getElem (by have := HL.out; omega)⟩
      obtain ⟨b, off, rfl, d0, d1⟩ := HA.out k q hq
      have c0 := cell_later HBk.out d0
      have c1 := cell_later HBk.out d1
      have D0 : Hid (w.cell? ⟨b, off + k * 2, none⟩ = some (.int .i64 q.1) ∧ w.cell? ⟨b, off + k * 2 + 1, none⟩ = some (.int .i64 q.2)) := ⟨d0, d1⟩
      have hkz : (k : Int) < (n : Int) := by omega
      have HT : Hid (endsL (l.take (k + 1)) c = putIf (putIf (endsL (l.take k) c) q.1) q.2) := by
        show _ = _
        rw [List.take_add_one, hq]; exact endsL_snoc _ _ _
      have hlen : (endsL (l.take k) c).length ≤ 10485760 := by
        have h3 := endsL_length (l.take k) c
        have h4 : (l.take k).length ≤ k := by rw [List.length_take]; omega
        omega
      obtain ⟨C, hC⟩ : ∃ C, C = endsL (l.take k) c := ⟨_, rfl⟩
      rw [← hC] at HI HT hlen
      clear d0 d1 hq hC
      have e1 : (0 < q.1 ∧ q.1 < 1099511627776) ∨ (¬ 0 < q.1) ∨ (0 < q.1 ∧ ¬ q.1 < 1099511627776) := by omega
      have e2 : (0 < q.2 ∧ q.2 < 1099511627776) ∨ (¬ 0 < q.2) ∨ (0 < q.2 ∧ ¬ q.2 < 1099511627776) := by omega
      rcases e1 with ⟨u1, t1⟩ | u1 | ⟨u1, t1⟩ <;> rcases e2 with ⟨u2, t2⟩ | u2 | ⟨u2, t2⟩
      · have p1 : putIf (C) q.1 = putL (C) q.1 := by unfold putIf; rw [if_pos ⟨u1, t1⟩]
        have a1 : decide (0 < q.1) = true := decide_eq_true u1
        have b1 : decide (q.1 < 1099511627776) = true := decide_eq_true t1
        have p2 : putIf (putL C q.1) q.2 = putL (putL C q.1) q.2 := by unfold putIf; rw [if_pos ⟨u2, t2⟩]
        have a2 : decide (0 < q.2) = true := decide_eq_true u2
        have b2 : decide (q.2 < 1099511627776) = true := decide_eq_true t2
        rw [p1, p2] at HT
        have HT2 := HT
        clear p1 p2 HT
        clear u1 u2 t1 t2
        go_wp2_with (first | (go_at_call_of 45 (Value.int .i64 q.1); refine (put_any HI.out (by omega) q.1).mono ?_; rintro e w1 ⟨z1, rfl, hi1, hb1⟩; have hw1 : Below w.heap.size w w1 := HBk.out.trans (hb1.mono HBk.out.size); have c2 := cell_later hw1 D0.out.1; have c3 := cell_later hw1 D0.out.2) | (go_at_call_of 45 (Value.int .i64 q.2); refine (put_any hi1 (by have := putL_length C q.1; omega) q.2).mono ?_; rintro e w2 ⟨z2, rfl, hi2, hb2⟩))
        go_roundw
        case rel => exact ⟨k + 1, by omega, by go_num, by rw [HT2.out]; exact hi2, (hw1.trans (hb2.mono hw1.size))⟩
        case measure => simp [intOf]; omega
      · have p1 : putIf (C) q.1 = putL (C) q.1 := by unfold putIf; rw [if_pos ⟨u1, t1⟩]
        have a1 : decide (0 < q.1) = true := decide_eq_true u1
        have b1 : decide (q.1 < 1099511627776) = true := decide_eq_true t1
        have p2 : putIf (putL C q.1) q.2 = putL C q.1 := by unfold putIf; rw [if_neg (fun h => u2 h.1)]
        have a2 : decide (0 < q.2) = false := decide_eq_false u2
        rw [p1, p2] at HT
        have HT2 := HT
        clear p1 p2 HT
        clear u1 u2 t1
        go_wp2_with (first | (go_at_call_of 45 (Value.int .i64 q.1); refine (put_any HI.out (by omega) q.1).mono ?_; rintro e w1 ⟨z1, rfl, hi1, hb1⟩; have hw1 : Below w.heap.size w w1 := HBk.out.trans (hb1.mono HBk.out.size); have c2 := cell_later hw1 D0.out.1; have c3 := cell_later hw1 D0.out.2))
        go_roundw
        case rel => exact ⟨k + 1, by omega, by go_num, by rw [HT2.out]; exact hi1, hw1⟩
        case measure => simp [intOf]; omega
      · have p1 : putIf (C) q.1 = putL (C) q.1 := by unfold putIf; rw [if_pos ⟨u1, t1⟩]
        have a1 : decide (0 < q.1) = true := decide_eq_true u1
        have b1 : decide (q.1 < 1099511627776) = true := decide_eq_true t1
        have p2 : putIf (putL C q.1) q.2 = putL C q.1 := by unfold putIf; rw [if_neg (fun h => t2 h.2)]
        have a2 : decide (0 < q.2) = true := decide_eq_true u2
        have b2 : decide (q.2 < 1099511627776) = false := decide_eq_false t2
        rw [p1, p2] at HT
        have HT2 := HT
        clear p1 p2 HT
        clear u1 u2 t1 t2
        go_wp2_with (first | (go_at_call_of 45 (Value.int .i64 q.1); refine (put_any HI.out (by omega) q.1).mono ?_; rintro e w1 ⟨z1, rfl, hi1, hb1⟩; have hw1 : Below w.heap.size w w1 := HBk.out.trans (hb1.mono HBk.out.size); have c2 := cell_later hw1 D0.out.1; have c3 := cell_later hw1 D0.out.2))
        go_roundw
        case rel => exact ⟨k + 1, by omega, by go_num, by rw [HT2.out]; exact hi1, hw1⟩
        case measure => simp [intOf]; omega
      · have p1 : putIf (C) q.1 = C := by unfold putIf; rw [if_neg (fun h => u1 h.1)]
        have a1 : decide (0 < q.1) = false := decide_eq_false u1
        have p2 : putIf (C) q.2 = putL (C) q.2 := by unfold putIf; rw [if_pos ⟨u2, t2⟩]
        have a2 : decide (0 < q.2) = true := decide_eq_true u2
        have b2 : decide (q.2 < 1099511627776) = true := decide_eq_true t2
        rw [p1, p2] at HT
        have HT2 := HT
        clear p1 p2 HT
        clear u1 u2 t2
        go_wp2_with (first | (go_at_call_of 45 (Value.int .i64 q.2); refine (put_any HI.out (by omega) q.2).mono ?_; rintro e w2 ⟨z2, rfl, hi2, hb2⟩))
        go_roundw
        case rel => exact ⟨k + 1, by omega, by go_num, by rw [HT2.out]; exact hi2, (HBk.out.trans (hb2.mono HBk.out.size))⟩
        case measure => simp [intOf]; omega
      · have p1 : putIf (C) q.1 = C := by unfold putIf; rw [if_neg (fun h => u1 h.1)]
        have a1 : decide (0 < q.1) = false := decide_eq_false u1
        have p2 : putIf (C) q.2 = C := by unfold putIf; rw [if_neg (fun h => u2 h.1)]
        have a2 : decide (0 < q.2) = false := decide_eq_false u2
        rw [p1, p2] at HT
        have HT2 := HT
        clear p1 p2 HT
        clear u1 u2
        go_wp2
        go_roundw
        case rel => exact ⟨k + 1, by omega, by go_num, by rw [HT2.out]; exact HI.out, HBk.out⟩
        case measure => simp [intOf]; omega
      · have p1 : putIf (C) q.1 = C := by unfold putIf; rw [if_neg (fun h => u1 h.1)]
        have a1 : decide (0 < q.1) = false := decide_eq_false u1
        have p2 : putIf (C) q.2 = C := by unfold putIf; rw [if_neg (fun h => t2 h.2)]
        have a2 : decide (0 < q.2) = true := decide_eq_true u2
        have b2 : decide (q.2 < 1099511627776) = false := decide_eq_false t2
        rw [p1, p2] at HT
        have HT2 := HT
        clear p1 p2 HT
        clear u1 u2 t2
        go_wp2
        go_roundw
        case rel => exact ⟨k + 1, by omega, by go_num, by rw [HT2.out]; exact HI.out, HBk.out⟩
        case measure => simp [intOf]; omega
      · have p1 : putIf (C) q.1 = C := by unfold putIf; rw [if_neg (fun h => t1 h.2)]
        have a1 : decide (0 < q.1) = true := decide_eq_true u1
        have b1 : decide (q.1 < 1099511627776) = false := decide_eq_false t1
        have p2 : putIf (C) q.2 = putL (C) q.2 := by unfold putIf; rw [if_pos ⟨u2, t2⟩]
        have a2 : decide (0 < q.2) = true := decide_eq_true u2
        have b2 : decide (q.2 < 1099511627776) = true := decide_eq_true t2
        rw [p1, p2] at HT
        have HT2 := HT
        clear p1 p2 HT
        clear u1 u2 t1 t2
        go_wp2_with (first | (go_at_call_of 45 (Value.int .i64 q.2); refine (put_any HI.out (by omega) q.2).mono ?_; rintro e w2 ⟨z2, rfl, hi2, hb2⟩))
        go_roundw
        case rel => exact ⟨k + 1, by omega, by go_num, by rw [HT2.out]; exact hi2, (HBk.out.trans (hb2.mono HBk.out.size))⟩
        case measure => simp [intOf]; omega
      · have p1 : putIf (C) q.1 = C := by unfold putIf; rw [if_neg (fun h => t1 h.2)]
        have a1 : decide (0 < q.1) = true := decide_eq_true u1
        have b1 : decide (q.1 < 1099511627776) = false := decide_eq_false t1
        have p2 : putIf (C) q.2 = C := by unfold putIf; rw [if_neg (fun h => u2 h.1)]
        have a2 : decide (0 < q.2) = false := decide_eq_false u2
        rw [p1, p2] at HT
        have HT2 := HT
        clear p1 p2 HT
        clear u1 u2 t1
        go_wp2
        go_roundw
        case rel => exact ⟨k + 1, by omega, by go_num, by rw [HT2.out]; exact HI.out, HBk.out⟩
        case measure => simp [intOf]; omega
      · have p1 : putIf (C) q.1 = C := by unfold putIf; rw [if_neg (fun h => t1 h.2)]
        have a1 : decide (0 < q.1) = true := decide_eq_true u1
        have b1 : decide (q.1 < 1099511627776) = false := decide_eq_false t1
        have p2 : putIf (C) q.2 = C := by unfold putIf; rw [if_neg (fun h => t2 h.2)]
        have a2 : decide (0 < q.2) = true := decide_eq_true u2
        have b2 : decide (q.2 < 1099511627776) = false := decide_eq_false t2
        rw [p1, p2] at HT
        have HT2 := HT
        clear p1 p2 HT
        clear u1 u2 t1 t2
        go_wp2
        go_roundw
        case rel => exact ⟨k + 1, by omega, by go_num, by rw [HT2.out]; exact HI.out, HBk.out⟩
        case measure => simp [intOf]; omega
    · have e : k = n := by omega
      subst e
      have HE : Hid (l.take k = l) := by show _ = _; rw [HL.out, List.take_length]
      rw [HE.out] at HI
      go_wp2
      go_ret
      exact ⟨_, rfl, HI.out, HBk.out⟩
set_option maxHeartbeats 4000000 in
theorem refHas_any {w : World} {v1 : Value} {l : List (Int × Int)} (h1 : SL w v1 l) (p : Int) :
    Calls Try.prog 47 #[v1, .int .i64 p] w fun e w' => e = .returned (.bool (hasB l p)) ∧ w' = w := by
  obtain ⟨ao, ca, rfl, hl, hA⟩ := h1
  have HA : Hid (Rngs w ao l) := hA
  obtain ⟨n, hn⟩ : ∃ n, n = l.length := ⟨_, rfl⟩
  rw [← hn] at hl ⊢
  have HL : Hid (n = l.length) := hn
  have HH : Hid (hasB l p = (inB l p && decide (0 ≤ p) && decide (p < 1099511627776))) := rfl
  clear hn hA
  by_cases g1 : p < 0
  · have d1 : decide (p < 0) = true := decide_eq_true g1
    have d2 : decide (0 ≤ p) = false := decide_eq_false (by omega)
    rw [d2] at HH
    go_enter Try.func47, Try.ntmps47
    go_wp2
    go_ret
    exact ⟨by rw [HH.out]; simp, rfl⟩
  by_cases g2 : 1099511627776 ≤ p
  · have d1 : decide (p < 0) = false := decide_eq_false g1
    have d2 : decide (1099511627776 ≤ p) = true := decide_eq_true g2
    have d3 : decide (p < 1099511627776) = false := decide_eq_false (by omega)
    rw [d3] at HH
    go_enter Try.func47, Try.ntmps47
    go_wp2
    go_ret
    exact ⟨by rw [HH.out]; simp, rfl⟩
  have d1 : decide (p < 0) = false := decide_eq_false g1
  have d2 : decide (1099511627776 ≤ p) = false := decide_eq_false g2
  have HH2 : Hid (hasB l p = inB l p) := by
    show _ = _
    rw [HH.out, decide_eq_true (show 0 ≤ p by omega), decide_eq_true (show p < 1099511627776 by omega)]; simp
  clear HH g1 g2
  go_enter Try.func47, Try.ntmps47
  go_wp2
  go_loopw [5] (fun i wr => ∃ (k : Nat), k ≤ n ∧ i = .int .i64 k ∧ Hid (inB (l.take k) p = false) ∧ Hid (wr = w)) (fun i _ => n - (intOf i).toNat)
  case atStart => exact ⟨0, Nat.zero_le _, rfl, rfl, rfl⟩
  case round =>
    obtain ⟨k, hk, rfl, HI, HW⟩ := hrel
    obtain rfl := HW.out
    by_cases hlt : k < n
    · obtain ⟨q, hq⟩ : ∃ q, l[k]? = some q := ⟨_, List.getElem?_eq_getElem (by have := HL.out; omega)⟩
      obtain ⟨b, off, rfl, c0, c1⟩ := HA.out k q hq
      have hkz : (k : Int) < (n : Int) := by omega
      have HT : Hid (inB (l.take (k + 1)) p = (decide (q.1 ≤ p) && decide (p < q.2))) := by
        show _ = _
        rw [List.take_add_one, hq]; exact (inB_snoc _ _ _).trans (by rw [HI.out]; rfl)
      have HIN : Hid ((decide (q.1 ≤ p) && decide (p < q.2)) = true → inB l p = true) := fun h => by
        rw [inB_iff]
        rw [Bool.and_eq_true, decide_eq_true_eq, decide_eq_true_eq] at h
        exact ⟨q, List.mem_of_getElem? hq, h⟩
      clear hq
      by_cases u1 : q.1 ≤ p
      · have a1 : decide (q.1 ≤ p) = true := decide_eq_true u1
        by_cases u2 : p < q.2
        · have a2 : decide (p < q.2) = true := decide_eq_true u2
          have HIN2 : Hid (hasB l p = true) := HH2.out.trans (HIN.out (by rw [a1, a2]; rfl))
          clear HIN HT
          go_wp2
          go_ret
          exact ⟨by rw [HIN2.out]; rfl, rfl⟩
        · have a2 : decide (p < q.2) = false := decide_eq_false u2
          rw [a1, a2] at HT
          clear HIN
          go_wp2
          go_roundw
          case rel => exact ⟨k + 1, by omega, by go_num, HT, by first | exact trivial | exact rfl⟩
          case measure => simp [intOf]; omega
      · have a1 : decide (q.1 ≤ p) = false := decide_eq_false u1
        rw [a1] at HT
        clear HIN
        go_wp2
        go_roundw
        case rel => exact ⟨k + 1, by omega, by go_num, HT, by first | exact trivial | exact rfl⟩
        case measure => simp [intOf]; omega
    · have e : k = n := by omega
      subst e
      have HE : Hid (l.take k = l) := by show _ = _; rw [HL.out, List.take_length]
      rw [HE.out] at HI
      go_wp2
      go_ret
      exact ⟨by rw [HH2.out, HI.out]; rfl, rfl⟩
/-- the three ways to want -/
def wantB (op : Int) (a b : Bool) : Bool := if op = 0 then a || b else if op = 1 then a && !b else a && b
theorem wanted_any (op : Int) (hop : op = 0 ∨ op = 1 ∨ op = 2) (a b : Bool) (w : World) :
    Calls Try.prog 46 #[.int .i64 op, .bool a, .bool b] w fun e w' => e = .returned (.bool (wantB op a b)) ∧ w' = w := by
  rcases hop with rfl | rfl | rfl <;> cases a <;> cases b
  all_goals
    go_enter Try.func46, Try.ntmps46
    go_wp2
    go_ret
    exact ⟨rfl, rfl⟩
end Go.Proofs.Ytijafckdbhklmab.B
