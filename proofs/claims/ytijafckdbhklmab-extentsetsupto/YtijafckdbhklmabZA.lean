import Derived.Test.YtijafckdbhklmabYZa
namespace Go.Proofs.Ytijafckdbhklmab.B
open Go.RowKit Go.Sort Go.Lib Go.Shelf
attribute [local go_sem] Oper.semAt_some
set_option linter.unusedVariables false
set_option linter.unusedSimpArgs false
set_option maxRecDepth 100000

def hasB (l : List (Int × Int)) (p : Int) : Bool := inB l p && decide (0 ≤ p) && decide (p < 1099511627776)
theorem hasB_iff (l : List (Int × Int)) (p : Int) : hasB l p = true ↔ (0 ≤ p ∧ p < 1099511627776 ∧ inL l p) := by
  unfold hasB
  rw [Bool.and_eq_true, Bool.and_eq_true, inB_iff, decide_eq_true_eq, decide_eq_true_eq]
  constructor
  · rintro ⟨⟨a, b⟩, c⟩; exact ⟨b, c, a⟩
  · rintro ⟨a, b, c⟩; exact ⟨⟨c, a⟩, b⟩
set_option maxHeartbeats 4000000 in
theorem has_any {w : World} {v1 : Value} {l : List (Int × Int)} (h1 : SL w v1 l) (p : Int) :
    Calls Try.prog 30 #[v1, .int .i64 p] w fun e w' => e = .returned (.bool (hasB l p)) ∧ w' = w := by
  obtain ⟨ao, ca, rfl, hl, hA⟩ := h1
  have HA : Hid (Rngs w ao l) := hA
  obtain ⟨n, hn⟩ : ∃ n, n = l.length := ⟨_, rfl⟩
  rw [← hn] at hl ⊢
  have HL : Hid (n = l.length) := hn
  clear hn hA
  go_enter Try.func30, Try.ntmps30
  go_wp2
  go_loopw [5, 6] (fun b i wr => ∃ (k : Nat), k ≤ n ∧ i = .int .i64 k ∧ b = .bool (inB (l.take k) p) ∧ Hid (wr = w)) (fun _ i _ => n - (intOf i).toNat)
  case atStart => exact ⟨0, Nat.zero_le _, rfl, rfl, rfl⟩
  case round =>
    obtain ⟨k, hk, rfl, rfl, HW⟩ := hrel
    obtain rfl := HW.out
    by_cases hlt : k < n
    · obtain ⟨q, hq⟩ : ∃ q, l[k]? = some q := ⟨_, List.getElem?_eq_getElem (by have := HL.out; omega)⟩
      obtain ⟨b, off, rfl, c0, c1⟩ := HA.out k q hq
      have hkz : (k : Int) < (n : Int) := by omega
      have HT : Hid (inB (l.take (k + 1)) p = (inB (l.take k) p || (decide (q.1 ≤ p) && decide (p < q.2)))) := by
        show _ = _
        rw [List.take_add_one, hq]; exact inB_snoc _ _ _
      clear hq
      cases hcur : inB (l.take k) p with
      | true =>
        rw [hcur] at HT
        go_wp2
        go_roundw
        case rel => exact ⟨k + 1, by omega, by go_num, by rw [HT.out]; rfl, by first | exact trivial | exact rfl⟩
        case measure => simp [intOf]; omega
      | false =>
        rw [hcur] at HT
        by_cases g1 : q.1 ≤ p
        · have d1 : decide (q.1 ≤ p) = true := decide_eq_true g1
          by_cases g2 : p < q.2
          · have d2 : decide (p < q.2) = true := decide_eq_true g2
            rw [d1, d2] at HT
            go_wp2
            go_roundw
            case rel => exact ⟨k + 1, by omega, by go_num, by rw [HT.out]; rfl, by first | exact trivial | exact rfl⟩
            case measure => simp [intOf]; omega
          · have d2 : decide (p < q.2) = false := decide_eq_false g2
            rw [d1, d2] at HT
            go_wp2
            go_roundw
            case rel => exact ⟨k + 1, by omega, by go_num, by rw [HT.out]; rfl, by first | exact trivial | exact rfl⟩
            case measure => simp [intOf]; omega
        · have d1 : decide (q.1 ≤ p) = false := decide_eq_false g1
          rw [d1] at HT
          go_wp2
          go_roundw
          case rel => exact ⟨k + 1, by omega, by go_num, by rw [HT.out]; rfl, by first | exact trivial | exact rfl⟩
          case measure => simp [intOf]; omega
    · have e : k = n := by omega
      subst e
      have HE : Hid (l.take k = l) := by show _ = _; rw [HL.out, List.take_length]
      rw [HE.out]
      have HH : Hid (hasB l p = (inB l p && decide (0 ≤ p) && decide (p < 1099511627776))) := rfl
      cases hcur : inB l p with
      | false =>
        rw [hcur] at HH
        go_wp2
        go_ret
        exact ⟨by rw [HH.out]; rfl, rfl⟩
      | true =>
        rw [hcur] at HH
        by_cases g1 : 0 ≤ p
        · have d1 : decide (0 ≤ p) = true := decide_eq_true g1
          by_cases g2 : p < 1099511627776
          · have d2 : decide (p < 1099511627776) = true := decide_eq_true g2
            rw [d1, d2] at HH
            go_wp2
            go_ret
            exact ⟨by rw [HH.out]; rfl, rfl⟩
          · have d2 : decide (p < 1099511627776) = false := decide_eq_false g2
            rw [d1, d2] at HH
            go_wp2
            go_ret
            exact ⟨by rw [HH.out]; rfl, rfl⟩
        · have d1 : decide (0 ≤ p) = false := decide_eq_false g1
          rw [d1] at HH
          go_wp2
          go_ret
          exact ⟨by rw [HH.out]; rfl, rfl⟩
/-- neighbours of a normal list -/
theorem lst_gap : ∀ {R : List (Rn Bool)} {lo hi : Int}, Tiles lo hi R → Alt R → ∀ (k : Nat) (p q : Int × Int), (lst R)[k]? = some p → (lst R)[k + 1]? = some q → p.2 < q.1
  | [], _, _, _, _, k, p, q, h, _ => by simp [lst] at h
  | r :: R, lo, hi, ⟨e, h1, h2⟩, ha, k, p, q, hp, hq => by
    cases hv : r.v with
    | false =>
      have el : lst (r :: R) = lst R := by simp [lst, hv]
      rw [el] at hp hq
      exact lst_gap h2 ha.tail k p q hp hq
    | true =>
      have el : lst (r :: R) = (r.lo, r.hi) :: lst R := by simp [lst, hv]
      rw [el] at hp hq
      cases k with
      | succ k =>
        simp only [List.getElem?_cons_succ] at hp hq
        exact lst_gap h2 ha.tail k p q hp hq
      | zero =>
        simp only [List.getElem?_cons_zero, Option.some.injEq, Nat.zero_add, List.getElem?_cons_succ] at hp hq
        subst hp
        simp only
        cases R with
        | nil => simp [lst] at hq
        | cons s R =>
          obtain ⟨e2, h3, h4⟩ := h2
          have hn := ha.next
          have hs : s.v = false := by
            cases hsv : s.v with
            | false => rfl
            | true => rw [hv, hsv] at hn; exact absurd rfl hn
          have el2 : lst (s :: R) = lst R := by simp [lst, hs]
          rw [el2] at hq
          have hm : q ∈ lst R := List.mem_of_getElem? hq
          obtain ⟨t, ht, rfl⟩ := List.mem_map.1 hm
          obtain ⟨ht, _⟩ := List.mem_filter.1 ht
          have : s.hi ≤ t.lo := by
            obtain ⟨A, B, e3⟩ := List.append_of_mem ht
            rw [e3] at h4
            obtain ⟨m, g1, g2⟩ := tiles_append.1 h4
            have := g1.le
            have := g2.1
            omega
          simp only
          omega
set_option maxHeartbeats 4000000 in
theorem normal_yes {w : World} {v1 : Value} {L : List (Int × Int)} {S : Int → Prop} (h1 : SL w v1 L) (hN : Norm L S) :
    Calls Try.prog 29 #[v1] w fun e w' => e = .returned (.bool true) ∧ Below w.heap.size w w' := by
  obtain ⟨ao, ca, rfl, hl, hA⟩ := h1
  have HA : Hid (Rngs w ao L) := hA
  have HE : Hid (∀ q ∈ L, 0 ≤ q.1 ∧ q.1 < q.2 ∧ q.2 ≤ 1099511627776) := fun q hq => norm_elem hN hq
  have HG : Hid (∀ (k : Nat) (p q : Int × Int), L[k]? = some p → L[k + 1]? = some q → p.2 < q.1) := by
    obtain ⟨R, t, a, hh, rfl⟩ := hN
    exact lst_gap t a
  obtain ⟨n, hn⟩ : ∃ n, n = L.length := ⟨_, rfl⟩
  rw [← hn] at hl ⊢
  have HL : Hid (n = L.length) := hn
  clear hn hA hN
  go_enter Try.func29, Try.ntmps29
  go_wp2
  go_loopw [3] (fun i wr => ∃ (k : Nat), k ≤ n ∧ i = .int .i64 k ∧ Hid (∃ d, wr = w.drewN d)) (fun i _ => n - (intOf i).toNat)
  case atStart => exact ⟨0, Nat.zero_le _, rfl, 0, rfl⟩
  case round =>
    obtain ⟨k, hk, rfl, HD⟩ := hrel
    by_cases hlt : k < n
    · obtain ⟨q, hq⟩ : ∃ q, L[k]? = some q := ⟨_, List.getElem?_eq_getElem (by have := HL.out; omega)⟩
      obtain ⟨b, off, rfl, c0, c1⟩ := HA.out k q hq
      have ec : ∀ a, wr.cell? a = w.cell? a := fun a => by obtain ⟨d, rfl⟩ := HD.out; rfl
      rw [← ec] at c0 c1
      have HD2 : Hid (∀ n, ∃ d, wr.drewN n = w.drewN d) := fun n => by obtain ⟨d, rfl⟩ := HD.out; exact ⟨d + n, World.drewN_drewN _ _ _⟩
      have hkz : (k : Int) < (n : Int) := by omega
      have hqe := HE.out q (List.mem_of_getElem? hq)
      have d1 : decide (q.1 < 0) = false := decide_eq_false (by omega)
      have d2 : decide (1099511627776 < q.2) = false := decide_eq_false (by omega)
      have d3 : decide (q.2 ≤ q.1) = false := decide_eq_false (by omega)
      by_cases hz : k = 0
      · subst hz
        simp only [Nat.zero_mul, Nat.add_zero] at c0 c1
        clear ec hq hqe
        go_wp2
        go_quiet (fail)
        go_wp2
        go_roundw
        case rel => exact ⟨0 + 1, by omega, by go_num, HD2.out _⟩
        case measure => simp [intOf]; omega
      · obtain ⟨j, hj⟩ : ∃ j, k = j + 1 := ⟨k - 1, by omega⟩
        have HJ : Hid (k = j + 1) := hj
        obtain ⟨p, hp⟩ : ∃ p, L[j]? = some p := ⟨_, List.getElem?_eq_getElem (by have := HL.out; omega)⟩
        obtain ⟨b', off', eb, e0, e1⟩ := HA.out j p hp
        simp only [Option.some.injEq, Addr.mk.injEq, and_true] at eb
        obtain ⟨rfl, rfl⟩ := eb
        rw [← ec] at e0 e1
        have hgap := HG.out j p q hp (by rw [← HJ.out]; exact hq)
        have d4 : decide ((0 : Int) < (k : Int)) = true := decide_eq_true (by omega)
        have d4' : decide (0 < k) = true := decide_eq_true (by omega)
        have hk0 : 0 < k := by omega
        have d5 : decide (q.1 ≤ p.2) = false := decide_eq_false (by omega)
        have w5 : IntKind.i64.wrap ((k : Int) - 1) = (j : Int) := by rw [IntKind.wrap_i64]; omega
        have hjz : (j : Int) < (n : Int) := by omega
        have hj0 : (0 : Int) ≤ (j : Int) := by omega
        clear ec hq hp hqe hgap hj hz
        go_wp2
        go_quiet (fail)
        go_wp2
        go_roundw
        case rel => exact ⟨k + 1, by omega, by go_num, HD2.out _⟩
        case measure => simp [intOf]; omega
    · have e : k = n := by omega
      subst e
      have HD3 : Hid (Below w.heap.size w wr) := by obtain ⟨d, rfl⟩ := HD.out; exact below_drewB w d
      go_wp2
      go_ret
      exact ⟨rfl, HD3.out⟩
end Go.Proofs.Ytijafckdbhklmab.B
